/- Layer 12: which facts are the same: the program, the reference. -/
import Derived.Test.YtdnbjaeeebodkaaFacc
import Derived.BigQuiet
import Derived.Deep.QuietTactic
import Derived.Deep.RegionHeld3
namespace Go.Proofs.Ytdnbjaeeebodkaa
set_option maxRecDepth 100000
open Go.RowKit
set_option linter.unusedVariables false
theorem eq_good {xs ys : List Int} (hn : xs.length = ys.length) (h : ∀ j, j < xs.length → xs.getD j 0 = ys.getD j 0) : decide (xs = ys) = true := by
  rw [decide_eq_true_iff]
  apply List.ext_getElem hn
  intro i h1 h2
  have := h i h1
  simpa [List.getD, h1, h2] using this
theorem eq_bad {xs ys : List Int} {k : Nat} (h : xs.getD k 0 ≠ ys.getD k 0) : decide (xs = ys) = false := by
  rw [decide_eq_false_iff_not]
  intro e; rw [e] at h; exact h rfl
theorem eq_len {xs ys : List Int} (h : xs.length ≠ ys.length) : decide (xs = ys) = false := by
  rw [decide_eq_false_iff_not]
  intro e; rw [e] at h; exact h rfl
theorem map_getD {xs : List Nat} {k : Nat} (hk : k < xs.length) : (xs.map keyI).getD k 0 = keyI (xs.getD k 0) := by simp [List.getD, hk]
theorem getD_mem {xs : List Nat} {P : Nat → Prop} (h : ∀ x ∈ xs, P x) {k : Nat} (hk : k < xs.length) : P (xs.getD k 0) := by
  have e : xs.getD k 0 = xs[k] := by simp [List.getD, hk]
  rw [e]; exact h _ (List.getElem_mem hk)
set_option maxHeartbeats 4000000 in
theorem eqC_any (u v : Value) (xs ys : List Int) (w : World) (hu : Ints .i64 w u xs) (hv : Ints .i64 w v ys) (hm : xs.length ≤ 9223372036854775807) :
    Calls Try.prog 26 #[u, v] w fun e w' => e = .returned (.bool (decide (xs = ys))) ∧ Drawn w w' := by
  obtain ⟨a, cap, rfl, h1, h3⟩ := hu
  obtain ⟨a', cap', rfl, h1', h3'⟩ := hv
  have HC := Lib.hid h3
  have HC' := Lib.hid h3'
  clear h3 h3'
  by_cases hn : xs.length = ys.length
  · have HG := Lib.hid (fun h => eq_good hn h)
    have HB := Lib.hid (fun k h => eq_bad (xs := xs) (ys := ys) (k := k) h)
    rw [← hn] at HC' ⊢
    have HQ := Lib.hid hn
    clear h1 h1' hn
    generalize decide (xs = ys) = R at *
    go_enter Try.func26, Try.ntmps26
    go_wp2_with fail
    go_loopw [13] (fun i wr => ∃ k : Nat, k ≤ xs.length ∧ i = .int .i64 k ∧ Hid (Drawn w wr) ∧ Hid (∀ j, j < k → xs.getD j 0 = ys.getD j 0)) (fun i _ => xs.length - (intOf i).toNat)
    case atStart => exact ⟨0, Nat.zero_le _, rfl, Lib.hid (Drawn.refl _), Lib.hid (fun j hj => by omega)⟩
    case round =>
      obtain ⟨k, hk, rfl, HD, HJ⟩ := hrel
      by_cases hlk : k < xs.length
      · have hlk' : (k : Int) < (xs.length : Int) := by omega
        rcases HC.out with h3 | ⟨b, off, rfl, hlt, hc⟩
        · rw [h3] at hlk; simp at hlk
        rcases HC'.out with h3 | ⟨b', off', rfl, hlt', hc'⟩
        · have hn := HQ.out; rw [h3] at hn; rw [hn] at hlk; simp at hlk
        have hx : wr.cell? ⟨b, off + k, none⟩ = some (.int .i64 (xs.getD k 0)) := (HD.out.below.cell (p := ⟨b, off + k, none⟩) hlt).trans (hc k hlk)
        have hx' : wr.cell? ⟨b', off' + k, none⟩ = some (.int .i64 (ys.getD k 0)) := (HD.out.below.cell (p := ⟨b', off' + k, none⟩) hlt').trans (hc' k hlk)
        have HN := Lib.hid (fun n => HD.out.next n)
        clear hc hc'
        by_cases hq : xs.getD k 0 = ys.getD k 0
        · have HJ2 := Lib.hid (fun j (hj : j < k + 1) => show xs.getD j 0 = ys.getD j 0 from if h : j < k then HJ.out j h else by
            have e : j = k := by omega
            rw [e]; exact hq)
          rw [← hq] at hx'
          have e : (xs.getD k 0 != xs.getD k 0) = false := by simp
          clear hq
          generalize xs.getD k 0 = x at hx hx' e
          go_upto_region 6 with fail
          go_quiet (fail)
          have HD2 := Lib.hid (HN.out nq)
          go_wp2
          go_roundw
          case rel => exact ⟨k + 1, by omega, by go_num, HD2, HJ2⟩
          case measure => simp [intOf]; omega
        · have hR := HB.out k hq
          subst hR
          have e : (xs.getD k 0 != ys.getD k 0) = true := by simpa using hq
          clear hq
          generalize xs.getD k 0 = x at hx e
          generalize ys.getD k 0 = y at hx' e
          go_upto_region 6 with fail
          go_quiet (fail)
          have HD2 := Lib.hid (HN.out nq)
          go_wp2
          go_ret
          exact ⟨rfl, HD2.out⟩
      · have hke : k = xs.length := by omega
        subst hke
        have hR := HG.out HJ.out
        subst hR
        go_wp2_with fail
        go_ret
        exact ⟨rfl, HD.out⟩
  · rw [eq_len hn]
    have hn2 : ((xs.length : Int) != (ys.length : Int)) = true := by simp; omega
    go_enter Try.func26, Try.ntmps26
    go_wp2_with fail
    go_ret
    exact ⟨rfl, Drawn.refl _⟩
set_option maxHeartbeats 4000000 in
theorem eqL_any (u v : Value) (xs ys : List Int) (w : World) (hu : Ints .i64 w u xs) (hv : Ints .i64 w v ys) (hm : xs.length ≤ 9223372036854775807) :
    Calls Try.prog 27 #[u, v] w fun e w' => e = .returned (.bool (decide (xs = ys))) ∧ Drawn w w' := by
  obtain ⟨a, cap, rfl, h1, h3⟩ := hu
  obtain ⟨a', cap', rfl, h1', h3'⟩ := hv
  have HC := Lib.hid h3
  have HC' := Lib.hid h3'
  clear h3 h3'
  by_cases hn : xs.length = ys.length
  · have HG := Lib.hid (fun h => eq_good hn h)
    have HB := Lib.hid (fun k h => eq_bad (xs := xs) (ys := ys) (k := k) h)
    rw [← hn] at HC' ⊢
    have HQ := Lib.hid hn
    clear h1 h1' hn
    generalize decide (xs = ys) = R at *
    go_enter Try.func27, Try.ntmps27
    go_wp2_with fail
    go_loopw [13] (fun i wr => ∃ k : Nat, k ≤ xs.length ∧ i = .int .i64 k ∧ Hid (Drawn w wr) ∧ Hid (∀ j, j < k → xs.getD j 0 = ys.getD j 0)) (fun i _ => xs.length - (intOf i).toNat)
    case atStart => exact ⟨0, Nat.zero_le _, rfl, Lib.hid (Drawn.refl _), Lib.hid (fun j hj => by omega)⟩
    case round =>
      obtain ⟨k, hk, rfl, HD, HJ⟩ := hrel
      by_cases hlk : k < xs.length
      · have hlk' : (k : Int) < (xs.length : Int) := by omega
        rcases HC.out with h3 | ⟨b, off, rfl, hlt, hc⟩
        · rw [h3] at hlk; simp at hlk
        rcases HC'.out with h3 | ⟨b', off', rfl, hlt', hc'⟩
        · have hn := HQ.out; rw [h3] at hn; rw [hn] at hlk; simp at hlk
        have hx : wr.cell? ⟨b, off + k, none⟩ = some (.int .i64 (xs.getD k 0)) := (HD.out.below.cell (p := ⟨b, off + k, none⟩) hlt).trans (hc k hlk)
        have hx' : wr.cell? ⟨b', off' + k, none⟩ = some (.int .i64 (ys.getD k 0)) := (HD.out.below.cell (p := ⟨b', off' + k, none⟩) hlt').trans (hc' k hlk)
        have HN := Lib.hid (fun n => HD.out.next n)
        clear hc hc'
        by_cases hq : xs.getD k 0 = ys.getD k 0
        · have HJ2 := Lib.hid (fun j (hj : j < k + 1) => show xs.getD j 0 = ys.getD j 0 from if h : j < k then HJ.out j h else by
            have e : j = k := by omega
            rw [e]; exact hq)
          rw [← hq] at hx'
          have e : (xs.getD k 0 != xs.getD k 0) = false := by simp
          clear hq
          generalize xs.getD k 0 = x at hx hx' e
          go_upto_region 6 with fail
          go_quiet (fail)
          have HD2 := Lib.hid (HN.out nq)
          go_wp2
          go_roundw
          case rel => exact ⟨k + 1, by omega, by go_num, HD2, HJ2⟩
          case measure => simp [intOf]; omega
        · have hR := HB.out k hq
          subst hR
          have e : (xs.getD k 0 != ys.getD k 0) = true := by simpa using hq
          clear hq
          generalize xs.getD k 0 = x at hx e
          generalize ys.getD k 0 = y at hx' e
          go_upto_region 6 with fail
          go_quiet (fail)
          have HD2 := Lib.hid (HN.out nq)
          go_wp2
          go_ret
          exact ⟨rfl, HD2.out⟩
      · have hke : k = xs.length := by omega
        subst hke
        have hR := HG.out HJ.out
        subst hR
        go_wp2_with fail
        go_ret
        exact ⟨rfl, HD.out⟩
  · rw [eq_len hn]
    have hn2 : ((xs.length : Int) != (ys.length : Int)) = true := by simp; omega
    go_enter Try.func27, Try.ntmps27
    go_wp2_with fail
    go_ret
    exact ⟨rfl, Drawn.refl _⟩
set_option maxHeartbeats 4000000 in
theorem eqF_any (u v : Value) (xs ys : List Nat) (w : World) (hu : Fls w u xs) (hv : Fls w v ys) (hx : ∀ x ∈ xs, W64 x) (hy : ∀ x ∈ ys, W64 x) (hm : xs.length ≤ 9223372036854775807) :
    Calls Try.prog 28 #[u, v, .func (.func 29) #[] #[]] w fun e w' => e = .returned (.bool (decide (xs.map keyI = ys.map keyI))) ∧ w = w' := by
  obtain ⟨a, cap, rfl, h1, h3⟩ := hu
  obtain ⟨a', cap', rfl, h1', h3'⟩ := hv
  have HC := Lib.hid h3
  have HC' := Lib.hid h3'
  clear h3 h3'
  by_cases hn : xs.length = ys.length
  · have HG := Lib.hid (fun h => eq_good (xs := xs.map keyI) (ys := ys.map keyI) (by simpa using hn) h)
    have HB := Lib.hid (fun k h => eq_bad (xs := xs.map keyI) (ys := ys.map keyI) (k := k) h)
    have HS := Lib.hid (fun k (hk : k < xs.length) => fsame_any (xs.getD k 0) (ys.getD k 0) w (getD_mem hx hk) (getD_mem hy (by omega)))
    have HM := Lib.hid (fun k (hk : k < xs.length) => And.intro (map_getD hk) (map_getD (xs := ys) (k := k) (by omega)))
    rw [← hn] at HC' ⊢
    rw [List.length_map] at HG
    have HQ := Lib.hid hn
    clear h1 h1' hx hy hn
    generalize decide (xs.map keyI = ys.map keyI) = R at *
    go_enter Try.func28, Try.ntmps28
    go_wp2_with fail
    go_loopw [17] (fun i wr => ∃ k : Nat, k ≤ xs.length ∧ i = .int .i64 k ∧ Hid (w = wr) ∧ Hid (∀ j, j < k → (xs.map keyI).getD j 0 = (ys.map keyI).getD j 0)) (fun i _ => xs.length - (intOf i).toNat)
    case atStart => exact ⟨0, Nat.zero_le _, rfl, Lib.hid rfl, Lib.hid (fun j hj => by omega)⟩
    case round =>
      obtain ⟨k, hk, rfl, HD, HJ⟩ := hrel
      obtain rfl := HD.out
      by_cases hlk : k < xs.length
      · have hlk' : (k : Int) < (xs.length : Int) := by omega
        rcases HC.out with h3 | ⟨b, off, rfl, hlt, hc⟩
        · rw [h3] at hlk; simp at hlk
        rcases HC'.out with h3 | ⟨b', off', rfl, hlt', hc'⟩
        · have hn := HQ.out; rw [h3] at hn; rw [hn] at hlk; simp at hlk
        have hx := hc k hlk
        have hx' := hc' k hlk
        have HSk := Lib.hid (HS.out k hlk)
        obtain ⟨m1, m2⟩ := HM.out k hlk
        unfold sameB at HSk
        rw [← m1, ← m2] at HSk
        clear hc hc' m1 m2
        generalize xs.getD k 0 = x at hx HSk
        generalize ys.getD k 0 = y at hx' HSk
        by_cases hq : (xs.map keyI).getD k 0 = (ys.map keyI).getD k 0
        · have HJ2 := Lib.hid (fun j (hj : j < k + 1) => show (xs.map keyI).getD j 0 = (ys.map keyI).getD j 0 from if h : j < k then HJ.out j h else by
            have e : j = k := by omega
            rw [e]; exact hq)
          rw [decide_eq_true hq] at HSk
          clear hq
          go_wp2_with fail
          refine (HSk.out).mono ?_; rintro e w1 ⟨rfl, rfl⟩
          go_wp2_with fail
          go_roundw
          case rel => exact ⟨k + 1, by omega, by go_num, Lib.hid True.intro, HJ2⟩
          case measure => simp [intOf]; omega
        · have hR := HB.out k hq
          subst hR
          rw [decide_eq_false hq] at HSk
          clear hq
          go_wp2_with fail
          refine (HSk.out).mono ?_; rintro e w1 ⟨rfl, rfl⟩
          go_wp2_with fail
          go_ret
          exact ⟨rfl, rfl⟩
      · have hke : k = xs.length := by omega
        subst hke
        have hR := HG.out HJ.out
        subst hR
        go_wp2_with fail
        go_ret
        exact ⟨rfl, rfl⟩
  · rw [eq_len (by simpa using hn)]
    have hn2 : ((xs.length : Int) != (ys.length : Int)) = true := by simp; omega
    go_enter Try.func28, Try.ntmps28
    go_wp2_with fail
    go_ret
    exact ⟨rfl, rfl⟩
/-- A block of a fact's three slices. -/
abbrev FaO (C I N : Value) : Obj := .cells #[C, I, N] 42
def FBox (w : World) (K : Nat) (C I N : Value) : Prop := w.heap[K]? = some (.cells #[C, I, N] 42 (0, 0))
theorem FBox.reads {w : World} {K : Nat} {C I N : Value} (h : FBox w K C I N) : w.cell? ⟨K, 0, none⟩ = some C ∧ w.cell? ⟨K, 1, none⟩ = some I ∧ w.cell? ⟨K, 2, none⟩ = some N := by
  unfold FBox at h
  refine ⟨by simp [World.cell?, h], by simp [World.cell?, h], by simp [World.cell?, h]⟩
theorem FBox.free {w : World} {K : Nat} {C I N : Value} (h : FBox w K C I N) : w.frozen? ⟨K, 0, none⟩ = false ∧ w.frozen? ⟨K, 1, none⟩ = false ∧ w.frozen? ⟨K, 2, none⟩ = false := by
  unfold FBox at h
  refine ⟨by simp [World.frozen?, h], by simp [World.frozen?, h], by simp [World.frozen?, h]⟩
theorem FBox.lt {w : World} {K : Nat} {C I N : Value} (h : FBox w K C I N) : K < w.heap.size := (Array.getElem?_eq_some_iff.1 h).1
theorem FBox.below {w w' : World} {K : Nat} {C I N : Value} (h : FBox w K C I N) (hb : Below w.heap.size w w') : FBox w' K C I N := by
  unfold FBox; rw [hb.block K h.lt]; exact h
theorem FBox.grown {w w' : World} {K M : Nat} {C I N : Value} (h : FBox w K C I N) (hg : w.grownBy w' (some M)) (hne : K ≠ M) : FBox w' K C I N := by
  unfold FBox; rw [hg.block K h.lt (by simpa using hne)]; exact h
theorem FBox.set0 {w : World} {K : Nat} {C I N u : Value} (h : FBox w K C I N) : FBox (w.setCell ⟨K, 0, none⟩ u) K u I N := heap_setCell_same w K 0 _ _ u h
theorem FBox.set1 {w : World} {K : Nat} {C I N u : Value} (h : FBox w K C I N) : FBox (w.setCell ⟨K, 1, none⟩ u) K C u N := heap_setCell_same w K 1 _ _ u h
theorem FBox.set2 {w : World} {K : Nat} {C I N u : Value} (h : FBox w K C I N) : FBox (w.setCell ⟨K, 2, none⟩ u) K C I u := heap_setCell_same w K 2 _ _ u h
theorem fbox_new (w : World) (C I N : Value) : FBox (w.alloc (FaO C I N)) w.heap.size C I N := heap_alloc_new w _
theorem tri_hold {w w' : World} (hb : Below w.heap.size w w') {p0 p1 p2 : Addr} {a0 a1 a2 : Value}
    (h : w.cell? p0 = some a0 ∧ w.cell? p1 = some a1 ∧ w.cell? p2 = some a2) : w'.cell? p0 = some a0 ∧ w'.cell? p1 = some a1 ∧ w'.cell? p2 = some a2 :=
  ⟨cell_hold hb h.1, cell_hold hb h.2.1, cell_hold hb h.2.2⟩
theorem two_facts (w : World) (C I N C' I' N' : Value) (W : World) (hW : (w.alloc (FaO C I N)).alloc (FaO C' I' N') = W) :
    Below w.heap.size w W ∧ FBox W w.heap.size C I N ∧ FBox W (w.heap.size + 1) C' I' N' := by
  subst hW
  have hz : (w.alloc (FaO C I N)).heap.size = w.heap.size + 1 := by simp
  have k2 := fbox_new (w.alloc (FaO C I N)) C' I' N'
  rw [hz] at k2
  exact ⟨below_then (below_one _ _) (below_one _ _), (fbox_new w C I N).below (below_one _ _), k2⟩
theorem sameFa_and (f g : Fa) : sameFa f g = (decide (f.cs = g.cs) && decide (f.is = g.is) && decide (f.ns.map keyI = g.ns.map keyI)) := by
  unfold sameFa keyF
  by_cases h1 : f.cs = g.cs <;> by_cases h2 : f.is = g.is <;> by_cases h3 : f.ns.map keyI = g.ns.map keyI <;> simp [h1, h2, h3]
set_option maxHeartbeats 4000000 in
theorem psame_any (w : World) (C I N C' I' N' : Value) (f g : Fa) (h : Fact3 w C I N f) (h' : Fact3 w C' I' N' g) (hf : FaWf f) (hg : FaWf g) :
    Calls Try.prog 13 #[FactV C I N, FactV C' I' N'] w fun e w' => e = .returned (.bool (sameFa f g)) ∧ Below w.heap.size w w' := by
  obtain ⟨W, hW⟩ : ∃ W, (w.alloc (FaO C I N)).alloc (FaO C' I' N') = W := ⟨_, rfl⟩
  obtain ⟨hb, hx, hx'⟩ := two_facts w C I N C' I' N' W hW
  have HB := Lib.hid hb
  have HX := Lib.hid (And.intro hx hx')
  have H1 := Lib.hid (eqC_any C C' f.cs g.cs W (h.c.below hb) (h'.c.below hb) hf.l.1)
  have H2 := Lib.hid (fun w1 (hd : Drawn W w1) => eqL_any I I' f.is g.is w1 (h.i.below (below_then hb hd.below)) (h'.i.below (below_then hb hd.below)) hf.l.2.1)
  have H3 := Lib.hid (fun w1 (hd : Drawn W w1) => eqF_any N N' f.ns g.ns w1 (h.n.below (below_then hb hd.below)) (h'.n.below (below_then hb hd.below)) hf.n hg.n hf.l.2.2)
  rw [sameFa_and]
  obtain ⟨⟨a, c, rfl⟩, ⟨a2, c2, rfl⟩, a3, c3, rfl⟩ := h.slices
  obtain ⟨⟨b, d, rfl⟩, ⟨b2, d2, rfl⟩, b3, d3, rfl⟩ := h'.slices
  obtain ⟨x0, x1, x2⟩ := hx.reads
  obtain ⟨y0, y1, y2⟩ := hx'.reads
  generalize decide (f.cs = g.cs) = B1 at *
  generalize decide (f.is = g.is) = B2 at *
  generalize decide (f.ns.map keyI = g.ns.map keyI) = B3 at *
  clear h h' hb hx hx' hf hg
  go_enter Try.func13, Try.ntmps13
  go_wp2_with fail
  refine (H1.out).mono ?_; rintro e w1 ⟨rfl, hd⟩
  have HD1 := Lib.hid hd
  have hb1 := hd.below
  clear x0 x1 x2 y0 y1 y2 hd hW
  obtain ⟨x0, x1, x2⟩ := (HX.out.1.below hb1).reads
  obtain ⟨y0, y1, y2⟩ := (HX.out.2.below hb1).reads
  clear hb1
  cases B1 with
  | false =>
    go_wp2_with fail
    go_ret
    exact ⟨rfl, below_then HB.out HD1.out.below⟩
  | true =>
    go_wp2_with fail
    refine (H2.out _ HD1.out).mono ?_; rintro e w2 ⟨rfl, hd⟩
    have HD2 := Lib.hid (HD1.out.trans hd)
    have hb1 := HD2.out.below
    clear x0 x1 x2 y0 y1 y2 hd
    obtain ⟨x0, x1, x2⟩ := (HX.out.1.below hb1).reads
    obtain ⟨y0, y1, y2⟩ := (HX.out.2.below hb1).reads
    clear hb1
    cases B2 with
    | false =>
      go_wp2_with fail
      go_ret
      exact ⟨rfl, below_then HB.out HD2.out.below⟩
    | true =>
      go_wp2_with fail
      refine (H3.out _ HD2.out).mono ?_; rintro e w3 ⟨rfl, rfl⟩
      go_wp2_with fail
      go_ret
      exact ⟨by simp, below_then HB.out HD2.out.below⟩
end Go.Proofs.Ytdnbjaeeebodkaa
