/- What the reader finds as bytes. -/
import Derived.Test.YtmganccajcpcbaaBufc
namespace Go.Proofs.Ytmganccajcpcbaa
set_option maxRecDepth 100000
open Go.RowKit
set_option linter.unusedVariables false
theorem bN_ok {most x : Int} {n : Nat} {b : List Int} (hU : getU b = (x, n, 0)) (h1 : ¬ max most 0 < x) (h2 : ¬ ((b.length - n : Nat) : Int) < x) : bN most b = ((b.take (n + x.toNat)).drop n, n + x.toNat, 0) := by
  unfold bN
  rw [hU]
  simp only [ne_eq, not_true, if_false]
  rw [if_neg h1, if_neg h2, List.drop_take, Nat.add_sub_cancel_left]
def ByteP (R : List Int × Nat × Nat) (w : World) (r : Ending) (w' : World) : Prop := (∃ v, r = .returned (.tuple #[v, .int .i64 (R.2.1 : Nat), .int .i64 (R.2.2 : Nat)]) ∧ Ints .u8 w' v R.1 ∧ Typed 5 w' v) ∧ Below w.heap.size w w'
theorem ints_nil {k : IntKind} {w : World} : Ints k w (.slice none 0 0) [] := ⟨none, 0, rfl, by simp, .inl rfl⟩
set_option maxHeartbeats 1000000 in
theorem cB_any (v : Value) (b : List Int) (most : Int) (M : Nat) (w : World) (hv : Ints .u8 w v b) (hb : Bt b) (hl : b.length ≤ 20000) (hM : w.cell? ⟨M, 0, none⟩ = some (.int .i64 most)) (hm : most ≤ 9223372036854775807) :
    Calls Try.prog 60 #[v, .pointer (some ⟨M, 0, none⟩)] w (ByteP (bN most b) w) := by
  have HU := Lib.hid (pgetU_any v b w hv hb (by omega))
  have HV := Lib.hid hv
  obtain ⟨a, cap, rfl, -, -⟩ := hv
  have hfit := (getU_fit hb).1
  obtain ⟨rr, hrr⟩ : ∃ rr, getU b = rr := ⟨_, rfl⟩
  obtain ⟨x, n, e⟩ := rr
  have HE := Lib.hid hrr
  rw [hrr] at HU hfit
  unfold trip at HU
  simp only at HU hfit
  have HM := Lib.hid hM
  have i0 : IntKind.u64.wrap (max most 0) = max most 0 := by rw [IntKind.wrap_u64]; omega
  clear hrr hM
  by_cases he : e = 0
  · subst he
    obtain ⟨f1, f2, f3⟩ := hfit rfl
    have i1 : IntKind.i64.wrap ((b.length : Int) - (n : Int)) = ((b.length - n : Nat) : Int) := by rw [IntWalk.i64_in _ (by omega)]; omega
    have i2 : IntKind.u64.wrap ((b.length - n : Nat) : Int) = ((b.length - n : Nat) : Int) := by rw [IntKind.wrap_u64]; omega
    by_cases h1 : max most 0 < x
    · have H1 := Lib.hid h1
      go_enter Try.func60, Try.ntmps60
      go_wp2_with fail
      refine (HU.out).mono ?_; rintro r w1 ⟨rfl, hb1⟩
      have HB := Lib.hid hb1
      have hc := cell_on hb1 HM.out
      clear hb1
      go_wp2_with fail
      have h3 : bN most b = ([], 0, 4) := by unfold bN; rw [HE.out]; simp only [ne_eq, not_true, if_false]; rw [if_pos H1.out]
      rw [h3]
      exact bodyPost_ret (v := .tuple #[.slice none 0 0, .int .i64 0, .int .i64 4]) (by simp [results, Try.results60, go_sem]) rfl ⟨⟨.slice none 0 0, rfl, ints_nil, Typed.none⟩, HB.out⟩
    · by_cases h2 : ((b.length - n : Nat) : Int) < x
      · have h1' := Lib.hid h1
        go_enter Try.func60, Try.ntmps60
        go_wp2_with fail
        refine (HU.out).mono ?_; rintro r w1 ⟨rfl, hb1⟩
        have HB := Lib.hid hb1
        have hc := cell_on hb1 HM.out
        clear hb1
        go_wp2_with fail
        have h3 : bN most b = ([], 0, 5) := by unfold bN; rw [HE.out]; simp only [ne_eq, not_true, if_false]; rw [if_neg (Int.not_lt.2 h1'.out), if_pos h2]
        rw [h3]
        exact bodyPost_ret (v := .tuple #[.slice none 0 0, .int .i64 0, .int .i64 5]) (by simp [results, Try.results60, go_sem]) rfl ⟨⟨.slice none 0 0, rfl, ints_nil, Typed.none⟩, HB.out⟩
      · have H3 := Lib.hid (bN_ok HE.out h1 h2)
        obtain ⟨X, rfl⟩ : ∃ X : Nat, x = X := ⟨x.toNat, by omega⟩
        rw [Int.toNat_natCast] at H3
        obtain ⟨s, hs⟩ : ∃ s, n + X = s := ⟨_, rfl⟩
        rw [hs] at H3
        obtain ⟨u, c, hop, hi⟩ := part_any HV.out (k := n) (h := s) (by omega) (by omega)
        have i3 : IntKind.i64.wrap (X : Int) = X := IntWalk.i64_in _ (by omega)
        have i4 : IntKind.i64.wrap ((n : Int) + X) = s := by rw [IntWalk.i64_in _ (by omega)]; omega
        have hlt : ((b.take s).drop n).length ≤ 20000 := by simp; omega
        have HI := Lib.hid hi
        generalize (b.take s).drop n = l at *
        generalize s - n = q at *
        have HC := Lib.hid (fun w1 (h : Below w.heap.size w w1) => clone_any _ l w1 (HI.out.below h) hlt)
        clear hlt hi hs hfit f1 f2 f3
        go_enter Try.func60, Try.ntmps60
        go_wp2_with fail
        refine (HU.out).mono ?_; rintro r w1 ⟨rfl, hb1⟩
        have HB := Lib.hid hb1
        have hc := cell_on hb1 HM.out
        clear hb1
        go_wp2_with fail
        refine (HC.out _ HB.out).mono ?_; intro r w2 hr
        obtain ⟨v', rfl, k1, k2, k3⟩ := hr.ints
        have HK := Lib.hid (And.intro (And.intro k1 k2) (below_then HB.out k3))
        obtain ⟨pa, pc, rfl, -, -⟩ := k1
        clear k2 k3 hr
        go_wp2_with fail
        rw [H3.out]
        exact bodyPost_ret (v := .tuple #[.slice pa l.length pc, .int .i64 (s : Int), .int .i64 0]) (by simp [results, Try.results60, go_sem]) rfl ⟨⟨_, rfl, HK.out.1⟩, HK.out.2⟩
  · have h0 : ((e : Int) != 0) = true := by simp; omega
    have h3 : bN most b = ([], 0, e) := by unfold bN; rw [HE.out]; simp only; rw [if_pos he]
    rw [h3]
    go_enter Try.func60, Try.ntmps60
    go_wp2_with fail
    refine (HU.out).mono ?_; rintro r w1 ⟨rfl, hb1⟩
    have HB := Lib.hid hb1
    clear hb1
    go_wp2_with fail
    exact bodyPost_ret (v := .tuple #[.slice none 0 0, .int .i64 0, .int .i64 e]) (by simp [results, Try.results60, go_sem]) rfl ⟨⟨.slice none 0 0, rfl, ints_nil, Typed.none⟩, HB.out⟩
end Go.Proofs.Ytmganccajcpcbaa
