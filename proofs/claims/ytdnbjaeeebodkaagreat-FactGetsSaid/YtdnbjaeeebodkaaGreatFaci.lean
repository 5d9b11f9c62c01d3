/- Layer 12: the reference's All, Light. -/
import Derived.Test.YtdnbjaeeebodkaaGreatFacc
import Derived.BigQuiet
import Derived.Deep.QuietTactic
import Derived.Deep.RegionHeld3
namespace Go.Proofs.YtdnbjaeeebodkaaGreat
set_option maxRecDepth 100000
open Go.RowKit
set_option linter.unusedVariables false
theorem eq_good {xs ys : List Int} (hn : xs.length = ys.length) (h : ∀ j, j < xs.length → xs.getD j 0 = ys.getD j 0) : decide (xs = ys) = true := by
  rw [decide_eq_true_iff]
  apply List.ext_getElem hn
  intro i h1 h2
  have := h i h1
  simpa [List.getD, h1, h2] using this
theorem eq_bad {xs ys : List Int} {k : Nat} (h : xs.getD k 0 ≠ ys.getD k 0) : decide (xs = ys) = false := by
  rw [decide_eq_false_iff_not]
  intro e; rw [e] at h; exact h rfl
theorem eq_len {xs ys : List Int} (h : xs.length ≠ ys.length) : decide (xs = ys) = false := by
  rw [decide_eq_false_iff_not]
  intro e; rw [e] at h; exact h rfl
theorem map_getD {xs : List Nat} {k : Nat} (hk : k < xs.length) : (xs.map keyI).getD k 0 = keyI (xs.getD k 0) := by simp [List.getD, hk]
theorem getD_mem {xs : List Nat} {P : Nat → Prop} (h : ∀ x ∈ xs, P x) {k : Nat} (hk : k < xs.length) : P (xs.getD k 0) := by
  have e : xs.getD k 0 = xs[k] := by simp [List.getD, hk]
  rw [e]; exact h _ (List.getElem_mem hk)
/-- A block of a fact's three slices. -/
abbrev FaO (C I N : Value) : Obj := .cells #[C, I, N] 48
def FBox (w : World) (K : Nat) (C I N : Value) : Prop := w.heap[K]? = some (.cells #[C, I, N] 48 (0, 0))
theorem FBox.reads {w : World} {K : Nat} {C I N : Value} (h : FBox w K C I N) : w.cell? ⟨K, 0, none⟩ = some C ∧ w.cell? ⟨K, 1, none⟩ = some I ∧ w.cell? ⟨K, 2, none⟩ = some N := by
  unfold FBox at h
  refine ⟨by simp [World.cell?, h], by simp [World.cell?, h], by simp [World.cell?, h]⟩
theorem FBox.free {w : World} {K : Nat} {C I N : Value} (h : FBox w K C I N) : w.frozen? ⟨K, 0, none⟩ = false ∧ w.frozen? ⟨K, 1, none⟩ = false ∧ w.frozen? ⟨K, 2, none⟩ = false := by
  unfold FBox at h
  refine ⟨by simp [World.frozen?, h], by simp [World.frozen?, h], by simp [World.frozen?, h]⟩
theorem FBox.lt {w : World} {K : Nat} {C I N : Value} (h : FBox w K C I N) : K < w.heap.size := (Array.getElem?_eq_some_iff.1 h).1
theorem FBox.below {w w' : World} {K : Nat} {C I N : Value} (h : FBox w K C I N) (hb : Below w.heap.size w w') : FBox w' K C I N := by
  unfold FBox; rw [hb.block K h.lt]; exact h
theorem FBox.grown {w w' : World} {K M : Nat} {C I N : Value} (h : FBox w K C I N) (hg : w.grownBy w' (some M)) (hne : K ≠ M) : FBox w' K C I N := by
  unfold FBox; rw [hg.block K h.lt (by simpa using hne)]; exact h
theorem FBox.set0 {w : World} {K : Nat} {C I N u : Value} (h : FBox w K C I N) : FBox (w.setCell ⟨K, 0, none⟩ u) K u I N := heap_setCell_same w K 0 _ _ u h
theorem FBox.set1 {w : World} {K : Nat} {C I N u : Value} (h : FBox w K C I N) : FBox (w.setCell ⟨K, 1, none⟩ u) K C u N := heap_setCell_same w K 1 _ _ u h
theorem FBox.set2 {w : World} {K : Nat} {C I N u : Value} (h : FBox w K C I N) : FBox (w.setCell ⟨K, 2, none⟩ u) K C I u := heap_setCell_same w K 2 _ _ u h
theorem fbox_new (w : World) (C I N : Value) : FBox (w.alloc (FaO C I N)) w.heap.size C I N := heap_alloc_new w _
theorem tri_hold {w w' : World} (hb : Below w.heap.size w w') {p0 p1 p2 : Addr} {a0 a1 a2 : Value}
    (h : w.cell? p0 = some a0 ∧ w.cell? p1 = some a1 ∧ w.cell? p2 = some a2) : w'.cell? p0 = some a0 ∧ w'.cell? p1 = some a1 ∧ w'.cell? p2 = some a2 :=
  ⟨cell_hold hb h.1, cell_hold hb h.2.1, cell_hold hb h.2.2⟩
theorem two_facts (w : World) (C I N C' I' N' : Value) (W : World) (hW : (w.alloc (FaO C I N)).alloc (FaO C' I' N') = W) :
    Below w.heap.size w W ∧ FBox W w.heap.size C I N ∧ FBox W (w.heap.size + 1) C' I' N' := by
  subst hW
  have hz : (w.alloc (FaO C I N)).heap.size = w.heap.size + 1 := by simp
  have k2 := fbox_new (w.alloc (FaO C I N)) C' I' N'
  rw [hz] at k2
  exact ⟨below_then (below_one _ _) (below_one _ _), (fbox_new w C I N).below (below_one _ _), k2⟩
theorem sameFa_and (f g : Fa) : sameFa f g = (decide (f.cs = g.cs) && decide (f.is = g.is) && decide (f.ns.map keyI = g.ns.map keyI)) := by
  unfold sameFa keyF
  by_cases h1 : f.cs = g.cs <;> by_cases h2 : f.is = g.is <;> by_cases h3 : f.ns.map keyI = g.ns.map keyI <;> simp [h1, h2, h3]
set_option maxRecDepth 100000
open Go.RowKit
set_option linter.unusedVariables false
theorem same_len {f g : Fa} (h : f.cs.length ≠ g.cs.length ∨ f.is.length ≠ g.is.length ∨ f.ns.length ≠ g.ns.length) : sameFa f g = false := by
  rw [sameFa_and]
  rcases h with h | h | h
  · rw [eq_len h]; rfl
  · rw [eq_len h]; simp
  · rw [eq_len (xs := f.ns.map keyI) (ys := g.ns.map keyI) (by simpa using h)]; simp
theorem same_c {f g : Fa} {k : Nat} (h : f.cs.getD k 0 ≠ g.cs.getD k 0) : sameFa f g = false := by rw [sameFa_and, eq_bad h]; rfl
theorem same_i {f g : Fa} {k : Nat} (h : f.is.getD k 0 ≠ g.is.getD k 0) : sameFa f g = false := by rw [sameFa_and, eq_bad h]; simp
theorem same_n {f g : Fa} {k : Nat} (h : (f.ns.map keyI).getD k 0 ≠ (g.ns.map keyI).getD k 0) : sameFa f g = false := by rw [sameFa_and, eq_bad h]; simp
theorem same_yes {f g : Fa} (h1 : f.cs.length = g.cs.length) (h2 : f.is.length = g.is.length) (h3 : f.ns.length = g.ns.length)
    (k1 : ∀ j, j < f.cs.length → f.cs.getD j 0 = g.cs.getD j 0) (k2 : ∀ j, j < f.is.length → f.is.getD j 0 = g.is.getD j 0) (k3 : ∀ j, j < f.ns.length → (f.ns.map keyI).getD j 0 = (g.ns.map keyI).getD j 0) : sameFa f g = true := by
  rw [sameFa_and, eq_good h1 k1, eq_good h2 k2, eq_good (xs := f.ns.map keyI) (ys := g.ns.map keyI) (by simpa using h3) (by simpa using k3)]; rfl
theorem till {P : Nat → Prop} {k : Nat} (h : ∀ j, j < k → P j) (hk : P k) : ∀ j, j < k + 1 → P j := fun j hj => if h0 : j < k then h j h0 else by
  have e : j = k := by omega
  rw [e]; exact hk
set_option maxHeartbeats 8000000 in
theorem rfsame_any (w : World) (C I N C' I' N' : Value) (f g : Fa) (h : Fact3 w C I N f) (h' : Fact3 w C' I' N' g) (hf : FaWf f) (hg : FaWf g) :
    Calls Tryz.prog 23 #[FactV C I N, FactV C' I' N'] w fun e w' => e = .returned (.bool (sameFa f g)) ∧ Below w.heap.size w w' := by
  obtain ⟨W, hW⟩ : ∃ W, (w.alloc (FaO C I N)).alloc (FaO C' I' N') = W := ⟨_, rfl⟩
  obtain ⟨hb, hx, hx'⟩ := two_facts w C I N C' I' N' W hW
  have HB := Lib.hid hb
  have HX := Lib.hid (And.intro hx hx')
  obtain ⟨⟨a, c, rfl⟩, ⟨a2, c2, rfl⟩, a3, c3, rfl⟩ := h.slices
  obtain ⟨⟨b, d, rfl⟩, ⟨b2, d2, rfl⟩, b3, d3, rfl⟩ := h'.slices
  obtain ⟨x0, x1, x2⟩ := hx.reads
  obtain ⟨y0, y1, y2⟩ := hx'.reads
  by_cases n1 : f.cs.length = g.cs.length
  · by_cases n2 : f.is.length = g.is.length
    · by_cases n3 : f.ns.length = g.ns.length
      · obtain ⟨a', cap', e', -, h3⟩ := h.c.below hb
        injection e' with e1 e2 e3
        subst e1 e3
        have HC := Lib.hid h3
        clear h3 e2
        obtain ⟨a', cap', e', -, h3⟩ := h'.c.below hb
        injection e' with e1 e2 e3
        subst e1 e3
        have HC' := Lib.hid h3
        clear h3 e2
        obtain ⟨a', cap', e', -, h3⟩ := h.i.below hb
        injection e' with e1 e2 e3
        subst e1 e3
        have HI := Lib.hid h3
        clear h3 e2
        obtain ⟨a', cap', e', -, h3⟩ := h'.i.below hb
        injection e' with e1 e2 e3
        subst e1 e3
        have HI' := Lib.hid h3
        clear h3 e2
        obtain ⟨a', cap', e', -, h3⟩ := h.n.below hb
        injection e' with e1 e2 e3
        subst e1 e3
        have HF := Lib.hid h3
        clear h3 e2
        obtain ⟨a', cap', e', -, h3⟩ := h'.n.below hb
        injection e' with e1 e2 e3
        subst e1 e3
        have HF' := Lib.hid h3
        clear h3 e2
        have HY := Lib.hid (fun k1 k2 k3 => same_yes n1 n2 n3 k1 k2 k3)
        have HE1 := Lib.hid (fun k h => same_c (f := f) (g := g) (k := k) h)
        have HE2 := Lib.hid (fun k h => same_i (f := f) (g := g) (k := k) h)
        have HE3 := Lib.hid (fun k h => same_n (f := f) (g := g) (k := k) h)
        have HS := Lib.hid (fun k (hk : k < f.ns.length) w => rsame_any (f.ns.getD k 0) (g.ns.getD k 0) w (getD_mem hf.n hk) (getD_mem hg.n (by omega)))
        have HM := Lib.hid (fun k (hk : k < f.ns.length) => And.intro (map_getD hk) (map_getD (xs := g.ns) (k := k) (by omega)))
        have HQ := Lib.hid (And.intro n1 (And.intro n2 n3))
        obtain ⟨l1, l2, l3⟩ := hf.l
        rw [← n1] at HC' HX y0 hW ⊢
        rw [← n2] at HI' HX y1 hW ⊢
        rw [← n3] at HF' HX y2 hW ⊢
        clear h h' hb hx hx' hf hg n1 n2 n3
        generalize sameFa f g = R at *
        go_enter Tryz.func23, Tryz.ntmps23
        go_wp2_with fail
        clear x0 x1 x2 y0 y1 y2 hW
        go_loopw [5] (fun i wr => ∃ k : Nat, k ≤ f.cs.length ∧ i = .int .i64 k ∧ Hid (Drawn W wr) ∧ Hid (∀ j, j < k → f.cs.getD j 0 = g.cs.getD j 0)) (fun i _ => f.cs.length - (intOf i).toNat)
        case atStart => exact ⟨0, Nat.zero_le _, rfl, Lib.hid (Drawn.refl _), Lib.hid (fun j hj => by omega)⟩
        case round =>
          obtain ⟨k, hk, rfl, HD, HJ⟩ := hrel
          obtain ⟨x0, x1, x2⟩ := (HX.out.1.below HD.out.below).reads
          obtain ⟨y0, y1, y2⟩ := (HX.out.2.below HD.out.below).reads
          by_cases hlk : k < f.cs.length
          · have hlk' : (k : Int) < (f.cs.length : Int) := by omega
            rcases HC.out with h3 | ⟨bb, off, rfl, hlt, hc⟩
            · rw [h3] at hlk; simp at hlk
            rcases HC'.out with h3 | ⟨bb', off', rfl, hlt', hc'⟩
            · have hn := HQ.out.1; rw [h3] at hn; rw [hn] at hlk; simp at hlk
            have hx : wr.cell? ⟨bb, off + k, none⟩ = some (.int .i64 (f.cs.getD k 0)) := (HD.out.below.cell (p := ⟨bb, off + k, none⟩) hlt).trans (hc k hlk)
            have hx' : wr.cell? ⟨bb', off' + k, none⟩ = some (.int .i64 (g.cs.getD k 0)) := (HD.out.below.cell (p := ⟨bb', off' + k, none⟩) hlt').trans (hc' k hlk)
            have HN := Lib.hid (fun n => HD.out.next n)
            clear hc hc'
            by_cases hq : f.cs.getD k 0 = g.cs.getD k 0
            · have HJ2 := Lib.hid (till HJ.out hq)
              rw [← hq] at hx'
              have e : (f.cs.getD k 0 != f.cs.getD k 0) = false := by simp
              clear hq
              generalize f.cs.getD k 0 = x at hx hx' e
              go_upto_region 6 with fail
              go_quiet (fail)
              have HD2 := Lib.hid (HN.out nq)
              go_wp2
              go_roundw
              case rel => exact ⟨k + 1, by omega, by go_num, HD2, HJ2⟩
              case measure => simp [intOf]; omega
            · have hR := HE1.out k hq
              subst hR
              have e : (f.cs.getD k 0 != g.cs.getD k 0) = true := by simpa using hq
              clear hq
              generalize f.cs.getD k 0 = x at hx e
              generalize g.cs.getD k 0 = y at hx' e
              go_upto_region 6 with fail
              go_quiet (fail)
              have HD2 := Lib.hid (HN.out nq)
              go_wp2
              go_ret
              exact ⟨rfl, below_then HB.out HD2.out.below⟩
          · have hke : k = f.cs.length := by omega
            subst hke
            have HJ1 := HJ
            have HD1 := HD
            go_wp2_with fail
            clear x0 x1 x2 y0 y1 y2
            go_loopw [6] (fun i wr => ∃ k : Nat, k ≤ f.is.length ∧ i = .int .i64 k ∧ Hid (Drawn W wr) ∧ Hid (∀ j, j < k → f.is.getD j 0 = g.is.getD j 0)) (fun i _ => f.is.length - (intOf i).toNat)
            case atStart => exact ⟨0, Nat.zero_le _, rfl, HD1, Lib.hid (fun j hj => by omega)⟩
            case round =>
              clear HD HJ
              obtain ⟨k, hk, rfl, HD, HJ⟩ := hrel
              obtain ⟨x0, x1, x2⟩ := (HX.out.1.below HD.out.below).reads
              obtain ⟨y0, y1, y2⟩ := (HX.out.2.below HD.out.below).reads
              by_cases hlk : k < f.is.length
              · have hlk' : (k : Int) < (f.is.length : Int) := by omega
                rcases HI.out with h3 | ⟨bb, off, rfl, hlt, hc⟩
                · rw [h3] at hlk; simp at hlk
                rcases HI'.out with h3 | ⟨bb', off', rfl, hlt', hc'⟩
                · have hn := HQ.out.2.1; rw [h3] at hn; rw [hn] at hlk; simp at hlk
                have hx := (HD.out.below.cell (p := ⟨bb, off + k, none⟩) hlt).trans (hc k hlk)
                have hx' := (HD.out.below.cell (p := ⟨bb', off' + k, none⟩) hlt').trans (hc' k hlk)
                have HN := Lib.hid (fun n => HD.out.next n)
                clear hc hc'
                by_cases hq : f.is.getD k 0 = g.is.getD k 0
                · have HJ2 := Lib.hid (till HJ.out hq)
                  rw [← hq] at hx'
                  have e : (f.is.getD k 0 != f.is.getD k 0) = false := by simp
                  clear hq
                  generalize f.is.getD k 0 = x at hx hx' e
                  go_upto_region 11 with fail
                  go_quiet (fail)
                  have HD2 := Lib.hid (HN.out nq)
                  go_wp2
                  go_roundw
                  case rel => exact ⟨k + 1, by omega, by go_num, HD2, HJ2⟩
                  case measure => simp [intOf]; omega
                · have hR := HE2.out k hq
                  subst hR
                  have e : (f.is.getD k 0 != g.is.getD k 0) = true := by simpa using hq
                  clear hq
                  generalize f.is.getD k 0 = x at hx e
                  generalize g.is.getD k 0 = y at hx' e
                  go_upto_region 11 with fail
                  go_quiet (fail)
                  have HD2 := Lib.hid (HN.out nq)
                  go_wp2
                  go_ret
                  exact ⟨rfl, below_then HB.out HD2.out.below⟩
              · have hke : k = f.is.length := by omega
                subst hke
                have HJ2 := HJ
                have HD2 := HD
                go_wp2_with fail
                clear x0 x1 x2 y0 y1 y2
                go_loopw [7] (fun i wr => ∃ k : Nat, k ≤ f.ns.length ∧ i = .int .i64 k ∧ Hid (Drawn W wr) ∧ Hid (∀ j, j < k → (f.ns.map keyI).getD j 0 = (g.ns.map keyI).getD j 0)) (fun i _ => f.ns.length - (intOf i).toNat)
                case atStart => exact ⟨0, Nat.zero_le _, rfl, HD2, Lib.hid (fun j hj => by omega)⟩
                case round =>
                  clear HD HJ
                  obtain ⟨k, hk, rfl, HD, HJ⟩ := hrel
                  obtain ⟨x0, x1, x2⟩ := (HX.out.1.below HD.out.below).reads
                  obtain ⟨y0, y1, y2⟩ := (HX.out.2.below HD.out.below).reads
                  by_cases hlk : k < f.ns.length
                  · have hlk' : (k : Int) < (f.ns.length : Int) := by omega
                    rcases HF.out with h3 | ⟨bb, off, rfl, hlt, hc⟩
                    · rw [h3] at hlk; simp at hlk
                    rcases HF'.out with h3 | ⟨bb', off', rfl, hlt', hc'⟩
                    · have hn := HQ.out.2.2; rw [h3] at hn; rw [hn] at hlk; simp at hlk
                    have hx := (HD.out.below.cell (p := ⟨bb, off + k, none⟩) hlt).trans (hc k hlk)
                    have hx' := (HD.out.below.cell (p := ⟨bb', off' + k, none⟩) hlt').trans (hc' k hlk)
                    have HN := Lib.hid (fun n => HD.out.next n)
                    have HSk := Lib.hid (HS.out k hlk)
                    obtain ⟨m1, m2⟩ := HM.out k hlk
                    unfold sameB at HSk
                    rw [← m1, ← m2] at HSk
                    clear hc hc' m1 m2
                    generalize f.ns.getD k 0 = x at hx HSk
                    generalize g.ns.getD k 0 = y at hx' HSk
                    by_cases hq : (f.ns.map keyI).getD k 0 = (g.ns.map keyI).getD k 0
                    · have HJ2 := Lib.hid (till HJ.out hq)
                      rw [decide_eq_true hq] at HSk
                      clear hq
                      go_upto_region 16 with fail
                      go_quiet ((go_at_call 62; exact Calls.quiet_of (HSk.out _)))
                      have HD2 := Lib.hid (HN.out nq)
                      go_wp2
                      go_roundw
                      case rel => exact ⟨k + 1, by omega, by go_num, HD2, HJ2⟩
                      case measure => simp [intOf]; omega
                    · have hR := HE3.out k hq
                      subst hR
                      rw [decide_eq_false hq] at HSk
                      clear hq
                      go_upto_region 16 with fail
                      go_quiet ((go_at_call 62; exact Calls.quiet_of (HSk.out _)))
                      have HD2 := Lib.hid (HN.out nq)
                      go_wp2
                      go_ret
                      exact ⟨rfl, below_then HB.out HD2.out.below⟩
                  · have hke : k = f.ns.length := by omega
                    subst hke
                    have hR := HY.out HJ1.out HJ2.out HJ.out
                    subst hR
                    go_wp2_with fail
                    go_ret
                    exact ⟨rfl, below_then HB.out HD.out.below⟩
      · rw [same_len (.inr (.inr n3))]
        have e1 : ((f.cs.length : Int) != (g.cs.length : Int)) = false := by rw [n1]; simp
        have e2 : ((f.is.length : Int) != (g.is.length : Int)) = false := by rw [n2]; simp
        have e3 : ((f.ns.length : Int) != (g.ns.length : Int)) = true := by simp; omega
        clear h h' hb hx hx' hf hg n1 n2 n3
        go_enter Tryz.func23, Tryz.ntmps23
        go_wp2_with fail
        go_ret
        exact ⟨rfl, HB.out⟩
    · rw [same_len (.inr (.inl n2))]
      have e1 : ((f.cs.length : Int) != (g.cs.length : Int)) = false := by rw [n1]; simp
      have e2 : ((f.is.length : Int) != (g.is.length : Int)) = true := by simp; omega
      clear h h' hb hx hx' hf hg n1 n2
      go_enter Tryz.func23, Tryz.ntmps23
      go_wp2_with fail
      go_ret
      exact ⟨rfl, HB.out⟩
  · rw [same_len (.inl n1)]
    have e1 : ((f.cs.length : Int) != (g.cs.length : Int)) = true := by simp; omega
    clear h h' hb hx hx' hf hg n1
    go_enter Tryz.func23, Tryz.ntmps23
    go_wp2_with fail
    go_ret
    exact ⟨rfl, HB.out⟩
set_option maxRecDepth 100000
open Go.RowKit
set_option linter.unusedVariables false
theorem fs_len {l m : List Fa} (h : l.length ≠ m.length) : sameFs l m = false := by
  unfold sameFs
  rw [decide_eq_false_iff_not]
  intro e
  have := congrArg List.length e
  simp only [List.length_map] at this
  exact h this
theorem fs_bad {l m : List Fa} {k : Nat} (h1 : k < l.length) (h2 : k < m.length) (h : sameFa l[k] m[k] = false) : sameFs l m = false := by
  unfold sameFs
  unfold sameFa at h
  rw [decide_eq_false_iff_not] at h ⊢
  intro e
  refine h ?_
  have e1 : (l.map keyF)[k]? = (m.map keyF)[k]? := by rw [e]
  simpa [h1, h2] using e1
theorem fs_good {l m : List Fa} (h1 : l.length = m.length) (h : ∀ j, (hj : j < l.length) → (hj2 : j < m.length) → sameFa l[j] m[j] = true) : sameFs l m = true := by
  unfold sameFs
  rw [decide_eq_true_iff]
  apply List.ext_getElem (by simpa using h1)
  intro i h2 h3
  simp only [List.length_map] at h2 h3
  have := h i h2 h3
  unfold sameFa at this
  simpa using of_decide_eq_true this
theorem six_hold {w w' : World} (hb : Below w.heap.size w w') {p0 p1 p2 q0 q1 q2 : Addr} {a0 a1 a2 b0 b1 b2 : Value}
    (h : w.cell? p0 = some a0 ∧ w.cell? p1 = some a1 ∧ w.cell? p2 = some a2 ∧ w.cell? q0 = some b0 ∧ w.cell? q1 = some b1 ∧ w.cell? q2 = some b2) :
    w'.cell? p0 = some a0 ∧ w'.cell? p1 = some a1 ∧ w'.cell? p2 = some a2 ∧ w'.cell? q0 = some b0 ∧ w'.cell? q1 = some b1 ∧ w'.cell? q2 = some b2 :=
  ⟨cell_hold hb h.1, cell_hold hb h.2.1, cell_hold hb h.2.2.1, cell_hold hb h.2.2.2.1, cell_hold hb h.2.2.2.2.1, cell_hold hb h.2.2.2.2.2⟩
set_option maxHeartbeats 8000000 in
theorem rall_any (w : World) (u v : Value) (l m : List Fa) (hu : Facts w u l) (hv : Facts w v m) (hl : ∀ f ∈ l, FaWf f) (hm : ∀ f ∈ m, FaWf f) :
    Calls Tryz.prog 8 #[u, v] w fun e w' => e = .returned (.bool (sameFs l m)) ∧ Below w.heap.size w w' := by
  obtain ⟨a, cap, rfl, h1, hmx, h3⟩ := hu
  obtain ⟨a', cap', rfl, h1', -, h3'⟩ := hv
  have HC := Lib.hid h3
  have HC' := Lib.hid h3'
  clear h3 h3'
  by_cases hn : l.length = m.length
  · have HG := Lib.hid (fun h => fs_good hn h)
    have HB := Lib.hid (fun k h1 h2 h => fs_bad (l := l) (m := m) (k := k) h1 h2 h)
    have HS := Lib.hid (fun w1 k (hk : k < l.length) (hk2 : k < m.length) C I N C' I' N' (h : Fact3 w C I N l[k]) (h' : Fact3 w C' I' N' m[k]) (hb : Below w.heap.size w w1) => rfsame_any w1 C I N C' I' N' l[k] m[k] (h.below hb) (h'.below hb) (hl _ (List.getElem_mem hk)) (hm _ (List.getElem_mem hk2)))
    have HQ := Lib.hid hn
    rw [← hn]
    clear h1 h1' hl hm hn
    generalize sameFs l m = R at *
    go_enter Tryz.func8, Tryz.ntmps8
    go_wp2_with fail
    go_loopw [5] (fun i wr => ∃ k : Nat, k ≤ l.length ∧ i = .int .i64 k ∧ Hid (Below w.heap.size w wr) ∧ Hid (∀ j, j < k → (hj : j < l.length) → (hj2 : j < m.length) → sameFa l[j] m[j] = true)) (fun i _ => l.length - (intOf i).toNat)
    case atStart => exact ⟨0, Nat.zero_le _, rfl, Lib.hid (Below.refl _ _), Lib.hid (fun j hj => by omega)⟩
    case round =>
      obtain ⟨k, hk, rfl, HD, HJ⟩ := hrel
      by_cases hlk : k < l.length
      · have hlk' : (k : Int) < (l.length : Int) := by omega
        have HK2 := Lib.hid (show k < m.length by rw [← HQ.out]; exact hlk)
        rcases HC.out with h3 | ⟨b, off, rfl, hlt, hc⟩
        · rw [h3] at hlk; simp at hlk
        rcases HC'.out with h3 | ⟨b', off', rfl, hlt', hc'⟩
        · have hn := HK2.out; rw [h3] at hn; simp at hn
        obtain ⟨C, I, N, hx, hf⟩ := hc k hlk
        obtain ⟨C', I', N', hy, hf'⟩ := hc' k HK2.out
        have hx := tri_hold HD.out hx
        have hy := tri_hold HD.out hy
        have HSk := Lib.hid (fun w1 hb => HS.out w1 k hlk HK2.out _ _ _ _ _ _ hf hf' hb)
        clear hc hc'
        obtain ⟨⟨pa, pc, rfl⟩, ⟨pa2, pc2, rfl⟩, pa3, pc3, rfl⟩ := hf.slices
        obtain ⟨⟨qa, qc, rfl⟩, ⟨qa2, qc2, rfl⟩, qa3, qc3, rfl⟩ := hf'.slices
        clear hf hf'
        have HNx := Lib.hid (fun h => HB.out k hlk HK2.out h)
        have HJx := Lib.hid (fun (h : sameFa l[k] m[k] = true) => till (P := fun j => (hj : j < l.length) → (hj2 : j < m.length) → sameFa l[j] m[j] = true) HJ.out (fun _ _ => h))
        have hk6 := And.intro hx.1 (And.intro hx.2.1 (And.intro hx.2.2 (And.intro hy.1 (And.intro hy.2.1 hy.2.2))))
        clear hx hy HC HC' HJ
        generalize l[k].cs.length = s1 at *
        generalize l[k].is.length = s2 at *
        generalize l[k].ns.length = s3 at *
        generalize m[k].cs.length = t1 at *
        generalize m[k].is.length = t2 at *
        generalize m[k].ns.length = t3 at *
        generalize sameFa l[k] m[k] = B at *
        go_upto_region 6 with fail
        have hk := six_hold (Below.refl wr.heap.size wr).drew hk6
        have hBw : Below w.heap.size w wr.drew := HD.out.drew
        clear hk6
        go_region_held3 (fun w' => w'.cell? ⟨b, off + k * 3, none⟩ = some (.slice pa s1 pc) ∧ w'.cell? ⟨b, off + k * 3 + 1, none⟩ = some (.slice pa2 s2 pc2) ∧ w'.cell? ⟨b, off + k * 3 + 2, none⟩ = some (.slice pa3 s3 pc3) ∧ w'.cell? ⟨b', off' + k * 3, none⟩ = some (.slice qa t1 qc) ∧ w'.cell? ⟨b', off' + k * 3 + 1, none⟩ = some (.slice qa2 t2 qc2) ∧ w'.cell? ⟨b', off' + k * 3 + 2, none⟩ = some (.slice qa3 t3 qc3)) (with_reducible exact hk)
          ((go_at_call 23; refine (HSk.out _ hBw).mono ?_; rintro r w4 ⟨rfl, hb2⟩; have hk := six_hold hb2 hk; have hBw := below_then hBw hb2; clear hb2))
        have HBw := Lib.hid hBw
        clear hBw hk
        cases B with
        | false =>
          have hR := HNx.out rfl
          subst hR
          go_wp2_with fail
          go_ret
          exact ⟨rfl, HBw.out⟩
        | true =>
          have HJ2 := Lib.hid (HJx.out rfl)
          go_wp2_with fail
          go_roundw
          case rel => exact ⟨k + 1, by omega, by go_num, HBw, HJ2⟩
          case measure => simp [intOf]; omega
      · have hke : k = l.length := by omega
        subst hke
        have hR := HG.out (fun j h1 h2 => HJ.out j h1 h1 h2)
        subst hR
        go_wp2_with fail
        go_ret
        exact ⟨rfl, HD.out⟩
  · rw [fs_len hn]
    have hn2 : ((l.length : Int) != (m.length : Int)) = true := by simp; omega
    go_enter Tryz.func8, Tryz.ntmps8
    go_wp2_with fail
    go_ret
    exact ⟨rfl, Below.refl _ _⟩
/-- One of the two. -/
def EitherB (e : Ending) : Prop := ∃ b : Bool, e = .returned (.bool b)
end Go.Proofs.YtdnbjaeeebodkaaGreat
