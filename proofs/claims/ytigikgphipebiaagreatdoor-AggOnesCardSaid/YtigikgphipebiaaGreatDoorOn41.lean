/- Contracts that the law leans on, pruned and merged: Aggt Aggu. -/
import Derived.Test.YtigikgphipebiaaGreatDoorOn04
import Derived.Test.YtigikgphipebiaaGreatDoorOn22
import Derived.Test.YtigikgphipebiaaGreatDoorOn29
import Derived.Test.YtigikgphipebiaaGreatDoorOn33
/- Layer 14: the program's validWhole, validReal. -/
namespace Go.Proofs.YtigikgphipebiaaGreatDoor
set_option maxRecDepth 100000
open Go.RowKit
set_option linter.unusedVariables false
def tidyB (l : List Int) : Bool := decide (l.length = 0) || decide (l.getD (l.length - 1) 0 ≠ 0)
theorem tidyB_iff {l : List Int} : tidyB l = true ↔ Tidy l := by
  unfold tidyB Tidy
  rw [Bool.or_eq_true, decide_eq_true_iff, decide_eq_true_iff, List.length_eq_zero_iff]
def rightW (x : Wh) : Bool := decide (0 ≤ x.abs) && decide (-x.abs ≤ x.sum) && decide (x.sum ≤ x.abs) && decide (x.mn ≤ x.mx) && decide (x.sq.length ≤ 7) && tidyB x.sq
def rightR (x : Re) : Bool := decide (errN x.sum = 0) && !lessB x.mx x.mn
theorem wvN_inj {a b : List Int} (ha : Wd a) (hb : Wd b) : ∀ n, wvN a n = wvN b n → ∀ i, i < n → a.getD i 0 = b.getD i 0
  | 0, _, i, hi => by omega
  | n + 1, h, i, hi => by
    unfold wvN at h
    have h1 := wvN_range ha n
    have h2 := wvN_range hb n
    have hp : (0 : Int) < 4294967296 ^ n := Int.pow_pos (by decide)
    have q1 : (wvN a n + a.getD n 0 * 4294967296 ^ n) / 4294967296 ^ n = a.getD n 0 := by rw [Int.add_mul_ediv_right _ _ (Int.ne_of_gt hp), Int.ediv_eq_zero_of_lt h1.1 h1.2, Int.zero_add]
    have q2 : (wvN b n + b.getD n 0 * 4294967296 ^ n) / 4294967296 ^ n = b.getD n 0 := by rw [Int.add_mul_ediv_right _ _ (Int.ne_of_gt hp), Int.ediv_eq_zero_of_lt h2.1 h2.2, Int.zero_add]
    rw [h, q2] at q1
    by_cases e : i = n
    · subst e; exact q1.symm
    · rw [q1] at h
      exact wvN_inj ha hb n (by omega) i (by omega)
theorem trim_len {a l : List Int} (ha : Wd a) (hl : Wd l) (ht : Tidy l) (hv : wv l = wv a) : ((a.length : Int) == (l.length : Int)) = tidyB a := by
  by_cases h : Tidy a
  · rw [tidyB_iff.2 h, tidy_unique hl ha ht h hv]; simp
  · have hb : tidyB a = false := by
      cases e : tidyB a with
      | false => rfl
      | true => exact absurd (tidyB_iff.1 e) h
    rw [hb, beq_eq_false_iff_ne]
    intro e
    have e2 : l.length = a.length := by omega
    apply h
    have e3 : l = a := by
      apply List.ext_getElem e2
      intro i h1 h2
      unfold wv at hv
      rw [e2] at hv
      have := wvN_inj hl ha _ hv i h2
      simpa [List.getD, List.getElem?_eq_getElem h1, List.getElem?_eq_getElem h2] using this
    rw [← e3]; exact ht
theorem drew_low (w W : World) (h : Below w.heap.size w W) (n : Nat) : Below w.heap.size w (W.drewN n) := below_then h ((Drawn.refl W).next n).below
set_option maxHeartbeats 8000000 in
theorem vwhole_raw (w : World) (x0 x1 x3 x4 : Int) (lx : List Int) (p : Option Addr) (c : Nat) (hq : Ints .u32 w (.slice p lx.length c) lx) (hx : WhW ⟨x0, x1, lx, x3, x4⟩) :
    Calls Tryz.prog 112 #[.agg #[.int .i64 x0, .int .i64 x1, .slice p lx.length c, .int .i64 x3, .int .i64 x4]] w fun e w' => e = .returned (.bool (rightW ⟨x0, x1, lx, x3, x4⟩)) ∧ Below w.heap.size w w' := by
  have HT := Lib.hid (fun w1 (hb : Below w.heap.size w w1) (h7 : lx.length ≤ 7) => trim_any (.slice p lx.length c) lx w1 ⟨hq.below hb, hx.sq, by omega⟩ (wv lx) rfl)
  have HTd := Lib.hid (fun zl (h1 : Wd zl) (h2 : Tidy zl) (h3 : wv zl = wv lx) => trim_len hx.sq h1 h2 h3)
  have HR := Lib.hid (show rightW ⟨x0, x1, lx, x3, x4⟩ = (decide (0 ≤ x1) && decide (-x1 ≤ x0) && decide (x0 ≤ x1) && decide (x3 ≤ x4) && decide (lx.length ≤ 7) && tidyB lx) from rfl)
  have HN := Lib.hid (fun (h : 0 ≤ x1) => And.intro (show IntKind.i64.wrap (-x1) = -x1 from IntWalk.i64_in _ (by have := hx.abs.2; simp only at this; omega)) (show wrap64 (-x1) = -x1 from wrap64_in (by have := hx.abs.2; simp only at this; omega) (by omega)))
  have HX := Lib.hid (show (w.alloc (.cells #[.int .i64 x0, .int .i64 x1, .slice p lx.length c, .int .i64 x3, .int .i64 x4] 75)).heap[w.heap.size]? = some (.cells #[.int .i64 x0, .int .i64 x1, .slice p lx.length c, .int .i64 x3, .int .i64 x4] 75 (0, 0)) from heap_alloc_new w _)
  have HB := Lib.hid (below_one w (.cells #[.int .i64 x0, .int .i64 x1, .slice p lx.length c, .int .i64 x3, .int .i64 x4] 75))
  unfold Fresh at HT
  generalize rightW ⟨x0, x1, lx, x3, x4⟩ = R at *
  clear hq hx
  go_enter Tryz.func112, Tryz.ntmps112
  go_upto_region 1 with fail
  generalize w.alloc (.cells #[.int .i64 x0, .int .i64 x1, .slice p lx.length c, .int .i64 x3, .int .i64 x4] 75) = W at *
  obtain ⟨e0, e1, e2, e3, e4⟩ := row5 HX.out
  by_cases h1 : 0 ≤ x1
  · obtain ⟨i1, i1'⟩ := HN.out h1
    have d1 : decide (0 ≤ x1) = true := decide_eq_true h1
    by_cases h2 : -x1 ≤ x0
    · have d2 : decide (-x1 ≤ x0) = true := decide_eq_true h2
      by_cases h3 : x0 ≤ x1
      · have d3 : decide (x0 ≤ x1) = true := decide_eq_true h3
        by_cases h4 : x3 ≤ x4
        · have d4 : decide (x3 ≤ x4) = true := decide_eq_true h4
          by_cases h5 : lx.length ≤ 7
          · have d5 : decide ((lx.length : Int) ≤ 7) = true := decide_eq_true (by omega)
            have hR := HR.out
            rw [d1, d2, d3, d4, decide_eq_true h5] at hR
            simp only [Bool.true_and] at hR
            have HT7 := Lib.hid (fun w1 hb => HT.out w1 hb h5)
            have hk : W.drew.cell? ⟨w.heap.size, 0, none⟩ = some (.int .i64 x0) ∧ W.drew.cell? ⟨w.heap.size, 1, none⟩ = some (.int .i64 x1) ∧ W.drew.cell? ⟨w.heap.size, 2, none⟩ = some (.slice p lx.length c) ∧ W.drew.cell? ⟨w.heap.size, 3, none⟩ = some (.int .i64 x3) ∧ W.drew.cell? ⟨w.heap.size, 4, none⟩ = some (.int .i64 x4) := ⟨e0, e1, e2, e3, e4⟩
            have hBw : Below w.heap.size w W.drew := HB.out.drew
            clear e0 e1 e2 e3 e4 HT HN
            go_region_held3 (fun w' => w'.cell? ⟨w.heap.size, 0, none⟩ = some (.int .i64 x0) ∧ w'.cell? ⟨w.heap.size, 1, none⟩ = some (.int .i64 x1) ∧ w'.cell? ⟨w.heap.size, 2, none⟩ = some (.slice p lx.length c) ∧ w'.cell? ⟨w.heap.size, 3, none⟩ = some (.int .i64 x3) ∧ w'.cell? ⟨w.heap.size, 4, none⟩ = some (.int .i64 x4)) (with_reducible exact hk)
              (first | (go_at_call 171; refine (HT7.out _ hBw).mono ?_; rintro e w2 ⟨u, zl, rfl, g1, g2, g3, g4, g5, g6⟩; have hk := And.intro (cell_later g6 hk.1) (And.intro (cell_later g6 hk.2.1) (And.intro (cell_later g6 hk.2.2.1) (And.intro (cell_later g6 hk.2.2.2.1) (cell_later g6 hk.2.2.2.2)))); have hfin := HTd.out zl g2 g3 g4; have HB2 := Lib.hid (below_then hBw g6); obtain ⟨pq, cq, rfl⟩ := own_any14 g1; clear g1 g2 g3 g4 g5 g6))
            go_wp2_with fail
            go_ret
            exact ⟨by rw [hR]; first | rfl | rw [hfin] | (rw [← hfin]; rfl), HB2.out⟩
          · have d5 : decide ((lx.length : Int) ≤ 7) = false := decide_eq_false (by omega)
            have hR : R = false := HR.out.trans (by rw [d1, d2, d3, d4, decide_eq_false h5]; rfl)
            subst hR
            go_quiet (fail)
            have HB2 := Lib.hid (drew_low _ _ HB.out nq)
            go_wp2
            go_ret
            exact ⟨rfl, HB2.out⟩
        · have d4 : decide (x3 ≤ x4) = false := decide_eq_false h4
          have hR : R = false := HR.out.trans (by rw [d1, d2, d3, d4]; rfl)
          subst hR
          go_quiet (fail)
          have HB2 := Lib.hid (drew_low _ _ HB.out nq)
          go_wp2
          go_ret
          exact ⟨rfl, HB2.out⟩
      · have d3 : decide (x0 ≤ x1) = false := decide_eq_false h3
        have hR : R = false := HR.out.trans (by rw [d1, d2, d3]; rfl)
        subst hR
        go_quiet (fail)
        have HB2 := Lib.hid (drew_low _ _ HB.out nq)
        go_wp2
        go_ret
        exact ⟨rfl, HB2.out⟩
    · have d2 : decide (-x1 ≤ x0) = false := decide_eq_false h2
      have hR : R = false := HR.out.trans (by rw [d1, d2]; rfl)
      subst hR
      go_quiet (fail)
      have HB2 := Lib.hid (drew_low _ _ HB.out nq)
      go_wp2
      go_ret
      exact ⟨rfl, HB2.out⟩
  · have d1 : decide (0 ≤ x1) = false := decide_eq_false h1
    have hR : R = false := HR.out.trans (by rw [d1]; rfl)
    subst hR
    go_quiet (fail)
    have HB2 := Lib.hid (drew_low _ _ HB.out nq)
    go_wp2
    go_ret
    exact ⟨rfl, HB2.out⟩
set_option maxHeartbeats 4000000 in
theorem vreal_raw (w : World) (x1 x2 : Nat) (lx : List Int) (p : Option Addr) (c : Nat) (hq : Ints .u8 w (.slice p lx.length c) lx) (hx : ReW ⟨lx, x1, x2⟩) :
    Calls Tryz.prog 115 #[.agg #[.slice p lx.length c, .float .f64 x1, .float .f64 x2]] w fun e w' => e = .returned (.bool (rightR ⟨lx, x1, x2⟩)) ∧ Below w.heap.size w w' := by
  have HP := Lib.hid (fun w1 (h : Below w.heap.size w w1) => pread_any p lx.length c lx w1 (hq.below h) hx.sum)
  have HL := Lib.hid (fun w1 => fless_any x2 x1 w1 hx.mx hx.mn)
  have HR := Lib.hid (show rightR ⟨lx, x1, x2⟩ = (decide (errN lx = 0) && !lessB x2 x1) from rfl)
  have HX := Lib.hid (show (w.alloc (.cells #[.slice p lx.length c, .float .f64 x1, .float .f64 x2] 63)).heap[w.heap.size]? = some (.cells #[.slice p lx.length c, .float .f64 x1, .float .f64 x2] 63 (0, 0)) from heap_alloc_new w _)
  have HB := Lib.hid (below_one w (.cells #[.slice p lx.length c, .float .f64 x1, .float .f64 x2] 63))
  generalize rightR ⟨lx, x1, x2⟩ = R at *
  generalize lessB x2 x1 = ls at *
  have hsf := fun (w : World) (a : Addr) (m : Mode) (k : Nat) => run_store_f64 (P := Tryz.prog) (w := w) (a := a) (m := m) k
  clear hq hx
  go_enter Tryz.func115, Tryz.ntmps115
  go_upto_region 1 with fail
  generalize w.alloc (.cells #[.slice p lx.length c, .float .f64 x1, .float .f64 x2] 63) = W at *
  obtain ⟨e0, e1, e2⟩ := row3 HX.out
  go_wp2_with fail
  refine (HP.out _ HB.out).mono ?_; rintro e w1 hr
  obtain ⟨pp, rfl, hb1, -⟩ := readP_one hr
  have HB1 := Lib.hid (below_then HB.out hb1)
  have e1 := cell_later hb1 e1
  have e2 := cell_later hb1 e2
  clear hr hb1 e0 HP
  by_cases he : errN lx = 0
  · have hR : R = !ls := HR.out.trans (by rw [decide_eq_true he]; rfl)
    subst hR
    have hE : ((errN lx : Int) == 0) = true := by rw [he]; rfl
    clear he HR
    generalize errN lx = E at *
    go_wp2_with fail
    refine (HL.out _).mono ?_; rintro e w2 ⟨rfl, rfl⟩
    go_wp2_with fail
    go_ret
    exact ⟨rfl, HB1.out⟩
  · have hR : R = false := HR.out.trans (by rw [decide_eq_false he]; rfl)
    subst hR
    have hE : ((errN lx : Int) == 0) = false := by rw [beq_eq_false_iff_ne]; omega
    clear he HR
    generalize errN lx = E at *
    go_wp2_with fail
    go_ret
    exact ⟨rfl, HB1.out⟩
end Go.Proofs.YtigikgphipebiaaGreatDoor
/- Layer 14: the program's Right. -/
namespace Go.Proofs.YtigikgphipebiaaGreatDoor
set_option maxRecDepth 100000
open Go.RowKit
set_option linter.unusedVariables false
def allW (l : List Wh) : Bool := (List.range l.length).all fun k => rightW (wg l k)
def allR (l : List Re) : Bool := (List.range l.length).all fun k => rightR (rg l k)
theorem allW_yes {l : List Wh} (h : ∀ k, k < l.length → rightW (wg l k) = true) : allW l = true := List.all_eq_true.2 fun x hx => h x (by simpa using hx)
theorem allR_yes {l : List Re} (h : ∀ k, k < l.length → rightR (rg l k) = true) : allR l = true := List.all_eq_true.2 fun x hx => h x (by simpa using hx)
theorem allW_no {l : List Wh} {k : Nat} (hk : k < l.length) (h : rightW (wg l k) = false) : allW l = false := List.all_eq_false.2 ⟨k, by simpa using hk, by simp [h]⟩
theorem allR_no {l : List Re} {k : Nat} (hk : k < l.length) (h : rightR (rg l k) = false) : allR l = false := List.all_eq_false.2 ⟨k, by simpa using hk, by simp [h]⟩
theorem closW_any (w : World) (x0 x1 x3 x4 : Int) (lx : List Int) (p : Option Addr) (c : Nat) (hq : Ints .u32 w (.slice p lx.length c) lx) (hx : WhW ⟨x0, x1, lx, x3, x4⟩) :
    Calls Tryz.prog 111 #[.agg #[.int .i64 x0, .int .i64 x1, .slice p lx.length c, .int .i64 x3, .int .i64 x4]] w fun e w' => e = .returned (.bool (!rightW ⟨x0, x1, lx, x3, x4⟩)) ∧ Below w.heap.size w w' := by
  have HV := Lib.hid (fun w1 (hb : Below w.heap.size w w1) => vwhole_raw w1 x0 x1 x3 x4 lx p c (hq.below hb) hx)
  have HX := Lib.hid (show (w.alloc (.cells #[.int .i64 x0, .int .i64 x1, .slice p lx.length c, .int .i64 x3, .int .i64 x4] 75)).heap[w.heap.size]? = some (.cells #[.int .i64 x0, .int .i64 x1, .slice p lx.length c, .int .i64 x3, .int .i64 x4] 75 (0, 0)) from heap_alloc_new w _)
  have HB := Lib.hid (below_one w (.cells #[.int .i64 x0, .int .i64 x1, .slice p lx.length c, .int .i64 x3, .int .i64 x4] 75))
  generalize rightW ⟨x0, x1, lx, x3, x4⟩ = R at *
  clear hq hx
  go_enter Tryz.func111, Tryz.ntmps111
  go_upto_region 1 with fail
  generalize w.alloc (.cells #[.int .i64 x0, .int .i64 x1, .slice p lx.length c, .int .i64 x3, .int .i64 x4] 75) = W at *
  obtain ⟨f0, f1, f2, f3, f4⟩ := row5 HX.out
  go_wp2_with fail
  refine (HV.out _ HB.out).mono ?_; rintro e w1 ⟨rfl, hb1⟩
  have HB1 := Lib.hid (below_then HB.out hb1)
  clear f0 f1 f2 f3 f4 hb1
  go_wp2_with fail
  go_ret
  exact ⟨rfl, HB1.out⟩
set_option maxHeartbeats 4000000 in
theorem idxW_any (w : World) (u : Value) (l : List Wh) (hu : Wholes w u l) (hw : ∀ x ∈ l, WhW x) :
    Calls Tryz.prog 170 #[u, .func (.func 111) #[] #[]] w fun e w' => (∃ r : Int, e = .returned (.int .i64 r) ∧ decide (0 ≤ r) = !allW l) ∧ Below w.heap.size w w' := by
  have HU := Lib.hid hu
  have HW := Lib.hid (fun k (hk : k < l.length) => show WhW (wg l k) by rw [wg_get hk]; exact hw _ (List.getElem_mem _))
  have HY := Lib.hid (@allW_yes l)
  have HN := Lib.hid (fun k (hk : k < l.length) (h : rightW (wg l k) = false) => allW_no hk h)
  obtain ⟨a, cap, rfl, -, hm, -⟩ := hu
  generalize allW l = R at *
  clear hw
  go_enter Tryz.func170, Tryz.ntmps170
  go_wp2_with fail
  go_loopw [8] (fun iv wr => ∃ k : Nat, k ≤ l.length ∧ iv = .int .i64 k ∧ Hid (Below w.heap.size w wr ∧ ∀ j, j < k → rightW (wg l j) = true)) (fun iv _ => l.length - (intOf iv).toNat)
  case atStart => exact ⟨0, Nat.zero_le _, rfl, Lib.hid ⟨Below.refl _ _, fun j hj => by omega⟩⟩
  case round =>
    obtain ⟨k, hk, rfl, HS⟩ := hrel
    by_cases hlk : k < l.length
    · have hlk' : (k : Int) < (l.length : Int) := by omega
      have hle : Hid (k + 1 ≤ l.length) := Lib.hid (by omega)
      obtain ⟨b, off, q, rfl, hq⟩ := (HU.out.below HS.out.1).at hlk
      obtain ⟨f0, f1, f2, f3, f4, f9⟩ := hq
      have HWk := HW.out k hlk
      have HNk := Lib.hid (fun h => HN.out k hlk h)
      have HSn := Lib.hid (fun (h : rightW (wg l k) = true) j (hj : j < k + 1) => show rightW (wg l j) = true from if e : j = k then e ▸ h else HS.out.2 j (by omega))
      have HBk := Lib.hid HS.out.1
      generalize wg l k = x at *
      obtain ⟨x0, x1, lx, x3, x4⟩ := x
      have hf := f9
      obtain ⟨p, c, rfl, -, -⟩ := f9
      have HC := Lib.hid (closW_any wr x0 x1 x3 x4 lx p c hf HWk)
      dsimp only at f0 f1 f2 f3 f4
      clear hf HWk HS
      generalize rightW ⟨x0, x1, lx, x3, x4⟩ = T at *
      go_wp2_with fail
      refine HC.out.mono ?_; rintro e w1 ⟨rfl, hb1⟩
      have HB1 := Lib.hid (below_then HBk.out hb1)
      clear hb1 HC f0 f1 f2 f3 f4
      cases T with
      | true =>
        have HJ := Lib.hid (HSn.out rfl)
        go_wp2_with fail
        go_roundw
        case rel => exact ⟨k + 1, hle.out, by go_num, Lib.hid ⟨HB1.out, HJ.out⟩⟩
        case measure => simp [intOf]; omega
      | false =>
        have hR := HNk.out rfl
        subst hR
        go_wp2_with fail
        go_ret
        exact ⟨⟨_, rfl, decide_eq_true (by omega)⟩, HB1.out⟩
    · have : k = l.length := by omega
      subst this
      have hR := HY.out HS.out.2
      subst hR
      go_wp2_with fail
      go_ret
      exact ⟨⟨-1, rfl, by decide⟩, HS.out.1⟩
theorem conW_any (w : World) (u : Value) (l : List Wh) (hu : Wholes w u l) (hw : ∀ x ∈ l, WhW x) :
    Calls Tryz.prog 110 #[u, .func (.func 111) #[] #[]] w fun e w' => e = .returned (.bool (!allW l)) ∧ Below w.heap.size w w' := by
  have HI := Lib.hid (idxW_any w u l hu hw)
  obtain ⟨a, cap, rfl, -, hm, -⟩ := hu
  generalize allW l = R at *
  clear hw
  go_enter Tryz.func110, Tryz.ntmps110
  go_wp2_with fail
  refine HI.out.mono ?_; rintro e w1 ⟨⟨r, rfl, hr⟩, hb⟩
  have HB := Lib.hid hb
  clear hb HI
  go_wp2_with fail
  go_ret
  exact ⟨by first | rfl | rw [← hr] | (rw [← hr]; rfl), HB.out⟩
theorem closR_any (w : World) (x1 x2 : Nat) (lx : List Int) (p : Option Addr) (c : Nat) (hq : Ints .u8 w (.slice p lx.length c) lx) (hx : ReW ⟨lx, x1, x2⟩) :
    Calls Tryz.prog 114 #[.agg #[.slice p lx.length c, .float .f64 x1, .float .f64 x2]] w fun e w' => e = .returned (.bool (!rightR ⟨lx, x1, x2⟩)) ∧ Below w.heap.size w w' := by
  have HV := Lib.hid (fun w1 (hb : Below w.heap.size w w1) => vreal_raw w1 x1 x2 lx p c (hq.below hb) hx)
  have HX := Lib.hid (show (w.alloc (.cells #[.slice p lx.length c, .float .f64 x1, .float .f64 x2] 63)).heap[w.heap.size]? = some (.cells #[.slice p lx.length c, .float .f64 x1, .float .f64 x2] 63 (0, 0)) from heap_alloc_new w _)
  have HB := Lib.hid (below_one w (.cells #[.slice p lx.length c, .float .f64 x1, .float .f64 x2] 63))
  generalize rightR ⟨lx, x1, x2⟩ = R at *
  clear hq hx
  go_enter Tryz.func114, Tryz.ntmps114
  go_upto_region 1 with fail
  generalize w.alloc (.cells #[.slice p lx.length c, .float .f64 x1, .float .f64 x2] 63) = W at *
  obtain ⟨f0, f1, f2⟩ := row3 HX.out
  go_wp2_with fail
  refine (HV.out _ HB.out).mono ?_; rintro e w1 ⟨rfl, hb1⟩
  have HB1 := Lib.hid (below_then HB.out hb1)
  clear f0 f1 f2 hb1
  go_wp2_with fail
  go_ret
  exact ⟨rfl, HB1.out⟩
set_option maxHeartbeats 4000000 in
theorem idxR_any (w : World) (u : Value) (l : List Re) (hu : Reals w u l) (hw : ∀ x ∈ l, ReW x) :
    Calls Tryz.prog 172 #[u, .func (.func 114) #[] #[]] w fun e w' => (∃ r : Int, e = .returned (.int .i64 r) ∧ decide (0 ≤ r) = !allR l) ∧ Below w.heap.size w w' := by
  have HU := Lib.hid hu
  have HW := Lib.hid (fun k (hk : k < l.length) => show ReW (rg l k) by rw [rg_get hk]; exact hw _ (List.getElem_mem _))
  have HY := Lib.hid (@allR_yes l)
  have HN := Lib.hid (fun k (hk : k < l.length) (h : rightR (rg l k) = false) => allR_no hk h)
  obtain ⟨a, cap, rfl, -, hm, -⟩ := hu
  generalize allR l = R at *
  clear hw
  go_enter Tryz.func172, Tryz.ntmps172
  go_wp2_with fail
  go_loopw [8] (fun iv wr => ∃ k : Nat, k ≤ l.length ∧ iv = .int .i64 k ∧ Hid (Below w.heap.size w wr ∧ ∀ j, j < k → rightR (rg l j) = true)) (fun iv _ => l.length - (intOf iv).toNat)
  case atStart => exact ⟨0, Nat.zero_le _, rfl, Lib.hid ⟨Below.refl _ _, fun j hj => by omega⟩⟩
  case round =>
    obtain ⟨k, hk, rfl, HS⟩ := hrel
    by_cases hlk : k < l.length
    · have hlk' : (k : Int) < (l.length : Int) := by omega
      have hle : Hid (k + 1 ≤ l.length) := Lib.hid (by omega)
      obtain ⟨b, off, q, rfl, hq⟩ := (HU.out.below HS.out.1).at hlk
      obtain ⟨f0, f1, f2, f9⟩ := hq
      have HWk := HW.out k hlk
      have HNk := Lib.hid (fun h => HN.out k hlk h)
      have HSn := Lib.hid (fun (h : rightR (rg l k) = true) j (hj : j < k + 1) => show rightR (rg l j) = true from if e : j = k then e ▸ h else HS.out.2 j (by omega))
      have HBk := Lib.hid HS.out.1
      generalize rg l k = x at *
      obtain ⟨lx, x1, x2⟩ := x
      have hf := f9
      obtain ⟨p, c, rfl, -, -⟩ := f9
      have HC := Lib.hid (closR_any wr x1 x2 lx p c hf HWk)
      dsimp only at f0 f1 f2
      clear hf HWk HS
      generalize rightR ⟨lx, x1, x2⟩ = T at *
      go_wp2_with fail
      refine HC.out.mono ?_; rintro e w1 ⟨rfl, hb1⟩
      have HB1 := Lib.hid (below_then HBk.out hb1)
      clear hb1 HC f0 f1 f2
      cases T with
      | true =>
        have HJ := Lib.hid (HSn.out rfl)
        go_wp2_with fail
        go_roundw
        case rel => exact ⟨k + 1, hle.out, by go_num, Lib.hid ⟨HB1.out, HJ.out⟩⟩
        case measure => simp [intOf]; omega
      | false =>
        have hR := HNk.out rfl
        subst hR
        go_wp2_with fail
        go_ret
        exact ⟨⟨_, rfl, decide_eq_true (by omega)⟩, HB1.out⟩
    · have : k = l.length := by omega
      subst this
      have hR := HY.out HS.out.2
      subst hR
      go_wp2_with fail
      go_ret
      exact ⟨⟨-1, rfl, by decide⟩, HS.out.1⟩
theorem conR_any (w : World) (u : Value) (l : List Re) (hu : Reals w u l) (hw : ∀ x ∈ l, ReW x) :
    Calls Tryz.prog 113 #[u, .func (.func 114) #[] #[]] w fun e w' => e = .returned (.bool (!allR l)) ∧ Below w.heap.size w w' := by
  have HI := Lib.hid (idxR_any w u l hu hw)
  obtain ⟨a, cap, rfl, -, hm, -⟩ := hu
  generalize allR l = R at *
  clear hw
  go_enter Tryz.func113, Tryz.ntmps113
  go_wp2_with fail
  refine HI.out.mono ?_; rintro e w1 ⟨⟨r, rfl, hr⟩, hb⟩
  have HB := Lib.hid hb
  clear hb HI
  go_wp2_with fail
  go_ret
  exact ⟨by first | rfl | rw [← hr] | (rw [← hr]; rfl), HB.out⟩
/-- A cell of a right schema's set that has so many keys. -/
def validC (S : Sc) (q : Int) (c : Ce) : Bool := decide (c.key < q) && decide (1 ≤ c.cnt) && decide (c.is.length = S.is.length) && decide (c.ns.length = S.ns.length) && allW c.is && allR c.ns
def rightC (S : Sc) (m : Int) (c : Ce) : Bool := decide (checkL S = 0 ∧ m ≤ fullL S.ds) && validC S (keysL S.ds m S.ds.length) c
set_option maxHeartbeats 8000000 in
theorem valid_any (w : World) (D I M V P Q : Value) (S : Sc) (q : Int) (c : Ce) (h : Sch4 w D I M V S) (h' : CeM w P Q c) (hc : CeW c) :
    Calls Tryz.prog 48 #[SchV D I M V, .int .u64 q, CeV c P Q] w fun e w' => e = .returned (.bool (validC S q c)) ∧ Below w.heap.size w w' := by
  have hb1 := below_one w (SchO D I M V)
  have hb2 := below_one (w.alloc (SchO D I M V)) (CeO c P Q)
  have HB := Lib.hid (below_then hb1 hb2)
  have HX := Lib.hid ((box_new w D I M V).below hb2)
  have hy := boxC_new (w.alloc (SchO D I M V)) c P Q
  rw [World.size_alloc] at hy
  have HY := Lib.hid hy
  have HW := Lib.hid (fun w1 (hb : Below w.heap.size w w1) => conW_any w1 P c.is (h'.i.below hb) hc.is)
  have HR := Lib.hid (fun w1 (hb : Below w.heap.size w w1) => conR_any w1 Q c.ns (h'.n.below hb) hc.ns)
  have HV := Lib.hid (show validC S q c = (decide (c.key < q) && decide (1 ≤ c.cnt) && decide (c.is.length = S.is.length) && decide (c.ns.length = S.ns.length) && allW c.is && allR c.ns) from rfl)
  obtain ⟨⟨a1, c1, rfl⟩, ⟨a2, c2, rfl⟩, ⟨a3, c3, rfl⟩, a4, c4, rfl⟩ := h.slices
  obtain ⟨⟨p, k1, rfl⟩, p2, k2, rfl⟩ := h'.slices
  generalize validC S q c = R at *
  clear h h' hc hb1 hb2 hy
  go_enter Tryz.func48, Tryz.ntmps48
  go_upto_region 1 with fail
  generalize (w.alloc (SchO (.slice a1 S.ds.length c1) (.slice a2 S.is.length c2) (.slice a3 S.ns.length c3) (.slice a4 S.vs.length c4))).alloc (CeO c (.slice p c.is.length k1) (.slice p2 c.ns.length k2)) = W at *
  obtain ⟨x0, x1, x2, x3⟩ := HX.out.reads
  obtain ⟨y0, y1, y2, y3⟩ := HY.out.reads
  by_cases h1 : c.key < q
  · have d1 : decide (c.key < q) = true := decide_eq_true h1
    by_cases h2 : 1 ≤ c.cnt
    · have d2 : decide (1 ≤ c.cnt) = true := decide_eq_true h2
      by_cases h3 : c.is.length = S.is.length
      · have d3 : ((c.is.length : Int) == (S.is.length : Int)) = true := by simp [h3]
        by_cases h4 : c.ns.length = S.ns.length
        · have d4 : ((c.ns.length : Int) == (S.ns.length : Int)) = true := by simp [h4]
          have hR : R = (allW c.is && allR c.ns) := HV.out.trans (by rw [d1, d2, decide_eq_true h3, decide_eq_true h4]; simp)
          clear HV h1 h2 h3 h4
          generalize allW c.is = A at *
          generalize allR c.ns = B at *
          go_wp2_with fail
          refine (HW.out _ HB.out).mono ?_; rintro e w1 ⟨rfl, hb⟩
          have HB1 := Lib.hid (below_then HB.out hb)
          have y3 := cell_later hb y3
          clear hb HW
          cases A with
          | false =>
            subst hR
            clear y3
            go_wp2_with fail
            go_ret
            exact ⟨rfl, HB1.out⟩
          | true =>
            subst hR
            go_wp2_with fail
            refine (HR.out _ HB1.out).mono ?_; rintro e w2 ⟨rfl, hb⟩
            have HB2 := Lib.hid (below_then HB1.out hb)
            clear hb HR y3
            cases R
            · go_wp2_with fail
              go_ret
              exact ⟨rfl, HB2.out⟩
            · go_wp2_with fail
              go_ret
              exact ⟨rfl, HB2.out⟩
        · have d4 : ((c.ns.length : Int) == (S.ns.length : Int)) = false := by rw [beq_eq_false_iff_ne]; omega
          have hR : R = false := HV.out.trans (by rw [decide_eq_false h4]; simp)
          subst hR
          clear HV h1 h2 h3 h4 HW HR
          go_wp2_with fail
          go_ret
          exact ⟨rfl, HB.out⟩
      · have d3 : ((c.is.length : Int) == (S.is.length : Int)) = false := by rw [beq_eq_false_iff_ne]; omega
        have hR : R = false := HV.out.trans (by rw [decide_eq_false h3]; simp)
        subst hR
        clear HV h1 h2 h3 HW HR
        go_wp2_with fail
        go_ret
        exact ⟨rfl, HB.out⟩
    · have d2 : decide (1 ≤ c.cnt) = false := decide_eq_false h2
      have hR : R = false := HV.out.trans (by rw [d2]; simp)
      subst hR
      clear HV h1 h2 HW HR
      go_wp2_with fail
      go_ret
      exact ⟨rfl, HB.out⟩
  · have d1 : decide (c.key < q) = false := decide_eq_false h1
    have hR : R = false := HV.out.trans (by rw [d1]; simp)
    subst hR
    clear HV h1 HW HR
    go_wp2_with fail
    go_ret
    exact ⟨rfl, HB.out⟩
set_option maxHeartbeats 4000000 in
theorem pright_any (w : World) (D I M V P Q : Value) (S : Sc) (m : Int) (c : Ce) (h : Sch4 w D I M V S) (hw : SWf S) (h' : CeM w P Q c) (hc : CeW c) (m0 : 0 ≤ m) (m1 : m ≤ 4294967295) :
    Calls Tryz.prog 18 #[SchV D I M V, .int .u32 m, CeV c P Q] w fun e w' => e = .returned (.bool (rightC S m c)) ∧ Below w.heap.size w w' := by
  have hb1 := below_one w (SchO D I M V)
  have hb2 := below_one (w.alloc (SchO D I M V)) (CeO c P Q)
  have HB := Lib.hid (below_then hb1 hb2)
  have HX := Lib.hid ((box_new w D I M V).below hb2)
  have hy := boxC_new (w.alloc (SchO D I M V)) c P Q
  rw [World.size_alloc] at hy
  have HY := Lib.hid hy
  have HK := Lib.hid (fun w1 (hb : Below w.heap.size w w1) => keys_any w1 D I M V S m (h.below hb) hw m0 m1)
  have HV := Lib.hid (fun w1 q (hb : Below w.heap.size w w1) => valid_any w1 D I M V P Q S q c (h.below hb) (h'.below hb) hc)
  have HR := Lib.hid (show rightC S m c = (decide (checkL S = 0 ∧ m ≤ fullL S.ds) && validC S (keysL S.ds m S.ds.length) c) from rfl)
  obtain ⟨⟨a1, c1, rfl⟩, ⟨a2, c2, rfl⟩, ⟨a3, c3, rfl⟩, a4, c4, rfl⟩ := h.slices
  obtain ⟨⟨p, k1, rfl⟩, p2, k2, rfl⟩ := h'.slices
  generalize rightC S m c = R at *
  clear h h' hc hw hb1 hb2 hy m0 m1
  go_enter Tryz.func18, Tryz.ntmps18
  go_upto_region 1 with fail
  generalize (w.alloc (SchO (.slice a1 S.ds.length c1) (.slice a2 S.is.length c2) (.slice a3 S.ns.length c3) (.slice a4 S.vs.length c4))).alloc (CeO c (.slice p c.is.length k1) (.slice p2 c.ns.length k2)) = W at *
  obtain ⟨x0, x1, x2, x3⟩ := HX.out.reads
  go_wp2_with fail
  refine (HK.out _ HB.out).mono ?_; rintro e w1 ⟨rfl, hb⟩
  have HB1 := Lib.hid (below_then HB.out hb)
  obtain ⟨x0, x1, x2, x3⟩ := (HX.out.below hb).reads
  obtain ⟨y0, y1, y2, y3⟩ := (HY.out.below hb).reads
  clear hb HK
  by_cases hk : checkL S = 0 ∧ m ≤ fullL S.ds
  · rw [if_pos hk, decide_eq_true hk]
    have hR := HR.out
    rw [decide_eq_true hk, Bool.true_and] at hR
    have HV2 := Lib.hid (HV.out w1 (keysL S.ds m S.ds.length) HB1.out)
    rw [← hR] at HV2
    clear hk HR HV hR
    generalize keysL S.ds m S.ds.length = K at *
    go_wp2_with fail
    refine HV2.out.mono ?_; rintro e w2 ⟨rfl, hb⟩
    have HB2 := Lib.hid (below_then HB1.out hb)
    clear hb HV2 x0 x1 x2 x3 y0 y1 y2 y3
    go_wp2_with fail
    go_ret
    exact ⟨rfl, HB2.out⟩
  · rw [if_neg hk, decide_eq_false hk]
    have hR : R = false := HR.out.trans (by rw [decide_eq_false hk]; rfl)
    subst hR
    clear hk HR HV x0 x1 x2 x3 y0 y1 y2 y3
    go_wp2_with fail
    go_ret
    exact ⟨rfl, HB1.out⟩
end Go.Proofs.YtigikgphipebiaaGreatDoor
