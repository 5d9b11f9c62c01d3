/- Layer 12: the reference's Same, All, Light. -/
import Derived.Test.YtdnbjaeeebodkaaFacg
namespace Go.Proofs.Ytdnbjaeeebodkaa
set_option maxRecDepth 100000
open Go.RowKit
set_option linter.unusedVariables false
theorem same_len {f g : Fa} (h : f.cs.length ≠ g.cs.length ∨ f.is.length ≠ g.is.length ∨ f.ns.length ≠ g.ns.length) : sameFa f g = false := by
  rw [sameFa_and]
  rcases h with h | h | h
  · rw [eq_len h]; rfl
  · rw [eq_len h]; simp
  · rw [eq_len (xs := f.ns.map keyI) (ys := g.ns.map keyI) (by simpa using h)]; simp
theorem same_c {f g : Fa} {k : Nat} (h : f.cs.getD k 0 ≠ g.cs.getD k 0) : sameFa f g = false := by rw [sameFa_and, eq_bad h]; rfl
theorem same_i {f g : Fa} {k : Nat} (h : f.is.getD k 0 ≠ g.is.getD k 0) : sameFa f g = false := by rw [sameFa_and, eq_bad h]; simp
theorem same_n {f g : Fa} {k : Nat} (h : (f.ns.map keyI).getD k 0 ≠ (g.ns.map keyI).getD k 0) : sameFa f g = false := by rw [sameFa_and, eq_bad h]; simp
theorem same_yes {f g : Fa} (h1 : f.cs.length = g.cs.length) (h2 : f.is.length = g.is.length) (h3 : f.ns.length = g.ns.length)
    (k1 : ∀ j, j < f.cs.length → f.cs.getD j 0 = g.cs.getD j 0) (k2 : ∀ j, j < f.is.length → f.is.getD j 0 = g.is.getD j 0) (k3 : ∀ j, j < f.ns.length → (f.ns.map keyI).getD j 0 = (g.ns.map keyI).getD j 0) : sameFa f g = true := by
  rw [sameFa_and, eq_good h1 k1, eq_good h2 k2, eq_good (xs := f.ns.map keyI) (ys := g.ns.map keyI) (by simpa using h3) (by simpa using k3)]; rfl
theorem till {P : Nat → Prop} {k : Nat} (h : ∀ j, j < k → P j) (hk : P k) : ∀ j, j < k + 1 → P j := fun j hj => if h0 : j < k then h j h0 else by
  have e : j = k := by omega
  rw [e]; exact hk
set_option maxHeartbeats 8000000 in
theorem rfsame_any (w : World) (C I N C' I' N' : Value) (f g : Fa) (h : Fact3 w C I N f) (h' : Fact3 w C' I' N' g) (hf : FaWf f) (hg : FaWf g) :
    Calls Try.prog 14 #[FactV C I N, FactV C' I' N'] w fun e w' => e = .returned (.bool (sameFa f g)) ∧ Below w.heap.size w w' := by
  obtain ⟨W, hW⟩ : ∃ W, (w.alloc (FaO C I N)).alloc (FaO C' I' N') = W := ⟨_, rfl⟩
  obtain ⟨hb, hx, hx'⟩ := two_facts w C I N C' I' N' W hW
  have HB := Lib.hid hb
  have HX := Lib.hid (And.intro hx hx')
  obtain ⟨⟨a, c, rfl⟩, ⟨a2, c2, rfl⟩, a3, c3, rfl⟩ := h.slices
  obtain ⟨⟨b, d, rfl⟩, ⟨b2, d2, rfl⟩, b3, d3, rfl⟩ := h'.slices
  obtain ⟨x0, x1, x2⟩ := hx.reads
  obtain ⟨y0, y1, y2⟩ := hx'.reads
  by_cases n1 : f.cs.length = g.cs.length
  · by_cases n2 : f.is.length = g.is.length
    · by_cases n3 : f.ns.length = g.ns.length
      · obtain ⟨a', cap', e', -, h3⟩ := h.c.below hb
        injection e' with e1 e2 e3
        subst e1 e3
        have HC := Lib.hid h3
        clear h3 e2
        obtain ⟨a', cap', e', -, h3⟩ := h'.c.below hb
        injection e' with e1 e2 e3
        subst e1 e3
        have HC' := Lib.hid h3
        clear h3 e2
        obtain ⟨a', cap', e', -, h3⟩ := h.i.below hb
        injection e' with e1 e2 e3
        subst e1 e3
        have HI := Lib.hid h3
        clear h3 e2
        obtain ⟨a', cap', e', -, h3⟩ := h'.i.below hb
        injection e' with e1 e2 e3
        subst e1 e3
        have HI' := Lib.hid h3
        clear h3 e2
        obtain ⟨a', cap', e', -, h3⟩ := h.n.below hb
        injection e' with e1 e2 e3
        subst e1 e3
        have HF := Lib.hid h3
        clear h3 e2
        obtain ⟨a', cap', e', -, h3⟩ := h'.n.below hb
        injection e' with e1 e2 e3
        subst e1 e3
        have HF' := Lib.hid h3
        clear h3 e2
        have HY := Lib.hid (fun k1 k2 k3 => same_yes n1 n2 n3 k1 k2 k3)
        have HE1 := Lib.hid (fun k h => same_c (f := f) (g := g) (k := k) h)
        have HE2 := Lib.hid (fun k h => same_i (f := f) (g := g) (k := k) h)
        have HE3 := Lib.hid (fun k h => same_n (f := f) (g := g) (k := k) h)
        have HS := Lib.hid (fun k (hk : k < f.ns.length) w => rsame_any (f.ns.getD k 0) (g.ns.getD k 0) w (getD_mem hf.n hk) (getD_mem hg.n (by omega)))
        have HM := Lib.hid (fun k (hk : k < f.ns.length) => And.intro (map_getD hk) (map_getD (xs := g.ns) (k := k) (by omega)))
        have HQ := Lib.hid (And.intro n1 (And.intro n2 n3))
        obtain ⟨l1, l2, l3⟩ := hf.l
        rw [← n1] at HC' HX y0 hW ⊢
        rw [← n2] at HI' HX y1 hW ⊢
        rw [← n3] at HF' HX y2 hW ⊢
        clear h h' hb hx hx' hf hg n1 n2 n3
        generalize sameFa f g = R at *
        go_enter Try.func14, Try.ntmps14
        go_wp2_with fail
        clear x0 x1 x2 y0 y1 y2 hW
        go_loopw [5] (fun i wr => ∃ k : Nat, k ≤ f.cs.length ∧ i = .int .i64 k ∧ Hid (Drawn W wr) ∧ Hid (∀ j, j < k → f.cs.getD j 0 = g.cs.getD j 0)) (fun i _ => f.cs.length - (intOf i).toNat)
        case atStart => exact ⟨0, Nat.zero_le _, rfl, Lib.hid (Drawn.refl _), Lib.hid (fun j hj => by omega)⟩
        case round =>
          obtain ⟨k, hk, rfl, HD, HJ⟩ := hrel
          obtain ⟨x0, x1, x2⟩ := (HX.out.1.below HD.out.below).reads
          obtain ⟨y0, y1, y2⟩ := (HX.out.2.below HD.out.below).reads
          by_cases hlk : k < f.cs.length
          · have hlk' : (k : Int) < (f.cs.length : Int) := by omega
            rcases HC.out with h3 | ⟨bb, off, rfl, hlt, hc⟩
            · rw [h3] at hlk; simp at hlk
            rcases HC'.out with h3 | ⟨bb', off', rfl, hlt', hc'⟩
            · have hn := HQ.out.1; rw [h3] at hn; rw [hn] at hlk; simp at hlk
            have hx : wr.cell? ⟨bb, off + k, none⟩ = some (.int .i64 (f.cs.getD k 0)) := (HD.out.below.cell (p := ⟨bb, off + k, none⟩) hlt).trans (hc k hlk)
            have hx' : wr.cell? ⟨bb', off' + k, none⟩ = some (.int .i64 (g.cs.getD k 0)) := (HD.out.below.cell (p := ⟨bb', off' + k, none⟩) hlt').trans (hc' k hlk)
            have HN := Lib.hid (fun n => HD.out.next n)
            clear hc hc'
            by_cases hq : f.cs.getD k 0 = g.cs.getD k 0
            · have HJ2 := Lib.hid (till HJ.out hq)
              rw [← hq] at hx'
              have e : (f.cs.getD k 0 != f.cs.getD k 0) = false := by simp
              clear hq
              generalize f.cs.getD k 0 = x at hx hx' e
              go_upto_region 6 with fail
              go_quiet (fail)
              have HD2 := Lib.hid (HN.out nq)
              go_wp2
              go_roundw
              case rel => exact ⟨k + 1, by omega, by go_num, HD2, HJ2⟩
              case measure => simp [intOf]; omega
            · have hR := HE1.out k hq
              subst hR
              have e : (f.cs.getD k 0 != g.cs.getD k 0) = true := by simpa using hq
              clear hq
              generalize f.cs.getD k 0 = x at hx e
              generalize g.cs.getD k 0 = y at hx' e
              go_upto_region 6 with fail
              go_quiet (fail)
              have HD2 := Lib.hid (HN.out nq)
              go_wp2
              go_ret
              exact ⟨rfl, below_then HB.out HD2.out.below⟩
          · have hke : k = f.cs.length := by omega
            subst hke
            have HJ1 := HJ
            have HD1 := HD
            go_wp2_with fail
            clear x0 x1 x2 y0 y1 y2
            go_loopw [6] (fun i wr => ∃ k : Nat, k ≤ f.is.length ∧ i = .int .i64 k ∧ Hid (Drawn W wr) ∧ Hid (∀ j, j < k → f.is.getD j 0 = g.is.getD j 0)) (fun i _ => f.is.length - (intOf i).toNat)
            case atStart => exact ⟨0, Nat.zero_le _, rfl, HD1, Lib.hid (fun j hj => by omega)⟩
            case round =>
              clear HD HJ
              obtain ⟨k, hk, rfl, HD, HJ⟩ := hrel
              obtain ⟨x0, x1, x2⟩ := (HX.out.1.below HD.out.below).reads
              obtain ⟨y0, y1, y2⟩ := (HX.out.2.below HD.out.below).reads
              by_cases hlk : k < f.is.length
              · have hlk' : (k : Int) < (f.is.length : Int) := by omega
                rcases HI.out with h3 | ⟨bb, off, rfl, hlt, hc⟩
                · rw [h3] at hlk; simp at hlk
                rcases HI'.out with h3 | ⟨bb', off', rfl, hlt', hc'⟩
                · have hn := HQ.out.2.1; rw [h3] at hn; rw [hn] at hlk; simp at hlk
                have hx := (HD.out.below.cell (p := ⟨bb, off + k, none⟩) hlt).trans (hc k hlk)
                have hx' := (HD.out.below.cell (p := ⟨bb', off' + k, none⟩) hlt').trans (hc' k hlk)
                have HN := Lib.hid (fun n => HD.out.next n)
                clear hc hc'
                by_cases hq : f.is.getD k 0 = g.is.getD k 0
                · have HJ2 := Lib.hid (till HJ.out hq)
                  rw [← hq] at hx'
                  have e : (f.is.getD k 0 != f.is.getD k 0) = false := by simp
                  clear hq
                  generalize f.is.getD k 0 = x at hx hx' e
                  go_upto_region 11 with fail
                  go_quiet (fail)
                  have HD2 := Lib.hid (HN.out nq)
                  go_wp2
                  go_roundw
                  case rel => exact ⟨k + 1, by omega, by go_num, HD2, HJ2⟩
                  case measure => simp [intOf]; omega
                · have hR := HE2.out k hq
                  subst hR
                  have e : (f.is.getD k 0 != g.is.getD k 0) = true := by simpa using hq
                  clear hq
                  generalize f.is.getD k 0 = x at hx e
                  generalize g.is.getD k 0 = y at hx' e
                  go_upto_region 11 with fail
                  go_quiet (fail)
                  have HD2 := Lib.hid (HN.out nq)
                  go_wp2
                  go_ret
                  exact ⟨rfl, below_then HB.out HD2.out.below⟩
              · have hke : k = f.is.length := by omega
                subst hke
                have HJ2 := HJ
                have HD2 := HD
                go_wp2_with fail
                clear x0 x1 x2 y0 y1 y2
                go_loopw [7] (fun i wr => ∃ k : Nat, k ≤ f.ns.length ∧ i = .int .i64 k ∧ Hid (Drawn W wr) ∧ Hid (∀ j, j < k → (f.ns.map keyI).getD j 0 = (g.ns.map keyI).getD j 0)) (fun i _ => f.ns.length - (intOf i).toNat)
                case atStart => exact ⟨0, Nat.zero_le _, rfl, HD2, Lib.hid (fun j hj => by omega)⟩
                case round =>
                  clear HD HJ
                  obtain ⟨k, hk, rfl, HD, HJ⟩ := hrel
                  obtain ⟨x0, x1, x2⟩ := (HX.out.1.below HD.out.below).reads
                  obtain ⟨y0, y1, y2⟩ := (HX.out.2.below HD.out.below).reads
                  by_cases hlk : k < f.ns.length
                  · have hlk' : (k : Int) < (f.ns.length : Int) := by omega
                    rcases HF.out with h3 | ⟨bb, off, rfl, hlt, hc⟩
                    · rw [h3] at hlk; simp at hlk
                    rcases HF'.out with h3 | ⟨bb', off', rfl, hlt', hc'⟩
                    · have hn := HQ.out.2.2; rw [h3] at hn; rw [hn] at hlk; simp at hlk
                    have hx := (HD.out.below.cell (p := ⟨bb, off + k, none⟩) hlt).trans (hc k hlk)
                    have hx' := (HD.out.below.cell (p := ⟨bb', off' + k, none⟩) hlt').trans (hc' k hlk)
                    have HN := Lib.hid (fun n => HD.out.next n)
                    have HSk := Lib.hid (HS.out k hlk)
                    obtain ⟨m1, m2⟩ := HM.out k hlk
                    unfold sameB at HSk
                    rw [← m1, ← m2] at HSk
                    clear hc hc' m1 m2
                    generalize f.ns.getD k 0 = x at hx HSk
                    generalize g.ns.getD k 0 = y at hx' HSk
                    by_cases hq : (f.ns.map keyI).getD k 0 = (g.ns.map keyI).getD k 0
                    · have HJ2 := Lib.hid (till HJ.out hq)
                      rw [decide_eq_true hq] at HSk
                      clear hq
                      go_upto_region 16 with fail
                      go_quiet ((go_at_call 30; exact Calls.quiet_of (HSk.out _)))
                      have HD2 := Lib.hid (HN.out nq)
                      go_wp2
                      go_roundw
                      case rel => exact ⟨k + 1, by omega, by go_num, HD2, HJ2⟩
                      case measure => simp [intOf]; omega
                    · have hR := HE3.out k hq
                      subst hR
                      rw [decide_eq_false hq] at HSk
                      clear hq
                      go_upto_region 16 with fail
                      go_quiet ((go_at_call 30; exact Calls.quiet_of (HSk.out _)))
                      have HD2 := Lib.hid (HN.out nq)
                      go_wp2
                      go_ret
                      exact ⟨rfl, below_then HB.out HD2.out.below⟩
                  · have hke : k = f.ns.length := by omega
                    subst hke
                    have hR := HY.out HJ1.out HJ2.out HJ.out
                    subst hR
                    go_wp2_with fail
                    go_ret
                    exact ⟨rfl, below_then HB.out HD.out.below⟩
      · rw [same_len (.inr (.inr n3))]
        have e1 : ((f.cs.length : Int) != (g.cs.length : Int)) = false := by rw [n1]; simp
        have e2 : ((f.is.length : Int) != (g.is.length : Int)) = false := by rw [n2]; simp
        have e3 : ((f.ns.length : Int) != (g.ns.length : Int)) = true := by simp; omega
        clear h h' hb hx hx' hf hg n1 n2 n3
        go_enter Try.func14, Try.ntmps14
        go_wp2_with fail
        go_ret
        exact ⟨rfl, HB.out⟩
    · rw [same_len (.inr (.inl n2))]
      have e1 : ((f.cs.length : Int) != (g.cs.length : Int)) = false := by rw [n1]; simp
      have e2 : ((f.is.length : Int) != (g.is.length : Int)) = true := by simp; omega
      clear h h' hb hx hx' hf hg n1 n2
      go_enter Try.func14, Try.ntmps14
      go_wp2_with fail
      go_ret
      exact ⟨rfl, HB.out⟩
  · rw [same_len (.inl n1)]
    have e1 : ((f.cs.length : Int) != (g.cs.length : Int)) = true := by simp; omega
    clear h h' hb hx hx' hf hg n1
    go_enter Try.func14, Try.ntmps14
    go_wp2_with fail
    go_ret
    exact ⟨rfl, HB.out⟩
end Go.Proofs.Ytdnbjaeeebodkaa
