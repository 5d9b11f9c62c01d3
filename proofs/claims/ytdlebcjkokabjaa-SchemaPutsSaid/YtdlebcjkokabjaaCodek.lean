/- The reference's GetF. -/
import Derived.Test.YtdlebcjkokabjaaCodej
namespace Go.Proofs.Ytdlebcjkokabjaa
set_option maxRecDepth 100000
open Go.RowKit
set_option linter.unusedVariables false
theorem rkeyed_any (k : Int) (w : World) (h0 : 0 ≤ k) (h1 : k ≤ 18446744073709551615) :
    Calls Try.prog 103 #[.int .u64 k] w fun e w' => e = .returned (.bool (decide (Keyed k))) ∧ w = w' := by
  by_cases e : k = 18446744073709551615
  · subst e
    have hR := Lib.hid (show decide (Keyed 18446744073709551615) = true by decide)
    go_enter Try.func103, Try.ntmps103
    go_wp2_with fail
    go_ret
    exact ⟨by rw [hR.out]; rfl, rfl⟩
  · have i1 : (k == 18446744073709551615) = false := by simpa using e
    by_cases a : (4503599627370495 : Int) ≤ k
    · by_cases b : k ≤ (18442240474082181120 : Int)
      · have hR := Lib.hid (show decide (Keyed k) = true by rw [decide_eq_true_iff]; exact .inr ⟨a, b⟩)
        go_enter Try.func103, Try.ntmps103
        go_wp2_with fail
        go_ret
        exact ⟨by rw [hR.out]; rfl, rfl⟩
      · have hR := Lib.hid (show decide (Keyed k) = false by rw [decide_eq_false_iff_not]; unfold Keyed; omega)
        go_enter Try.func103, Try.ntmps103
        go_wp2_with fail
        go_ret
        exact ⟨by rw [hR.out]; rfl, rfl⟩
    · have hR := Lib.hid (show decide (Keyed k) = false by rw [decide_eq_false_iff_not]; unfold Keyed; omega)
      go_enter Try.func103, Try.ntmps103
      go_wp2_with fail
      go_ret
      exact ⟨by rw [hR.out]; rfl, rfl⟩
def pairF (r : Int × Nat) : Value := .tuple #[.int .u64 r.1, .int .i64 (r.2 : Nat)]
set_option maxHeartbeats 8000000 in
theorem rgetF_any (v : Value) (b : List Int) (w : World) (hv : Ints .u8 w v b) (hb : Bt b) (hl : b.length ≤ 1099511627775) :
    Calls Try.prog 98 #[v] w fun e w' => e = .returned (pairF (getF b)) ∧ Drawn w w' := by
  have HV := Lib.hid hv
  have HBt := Lib.hid hb
  obtain ⟨a, cap, rfl, hcap, -⟩ := hv
  have r0 := fill_range hb (f := 0) (by decide) (by decide) 8
  have r1 := fill_range hb (f := 255) (by decide) (by decide) 8
  have e8 : (256 : Int) ^ 8 = 18446744073709551616 := by decide
  rw [e8] at r0 r1
  have HR := Lib.hid (And.intro r0 r1)
  have HE := Lib.hid (show getF b = (if 8 ≤ b.length then (if Keyed (fillN b 0 8) then (fillN b 0 8, 0) else (0, 6))
    else if Keyed (fillN b 0 8) ∨ Keyed (fillN b 255 8) ∨ (fillN b 0 8 < 9223372036854775808 ∧ 9223372036854775808 ≤ fillN b 255 8) then (0, 5) else (0, 6)) from rfl)
  generalize getF b = R at *
  clear r0 r1 e8 hb
  go_enter Try.func98, Try.ntmps98
  go_wp2_with fail
  go_loopw [4, 5, 6] (fun xv yv iv wr => ∃ k : Nat, k ≤ 8 ∧ xv = .int .u64 (fillN b 0 k) ∧ yv = .int .u64 (fillN b 255 k) ∧ iv = .int .i64 k ∧ Hid (Drawn w wr)) (fun _ _ iv _ => 8 - (intOf iv).toNat)
  case atStart => exact ⟨0, Nat.zero_le _, rfl, rfl, rfl, Lib.hid (Drawn.refl w)⟩
  case round =>
    obtain ⟨k, hk, rfl, rfl, rfl, hD⟩ := hrel
    by_cases hlt : k < 8
    · have i1 : (k : Int) < 8 := by omega
      by_cases htl : k < b.length
      · have i2 : (k : Int) < (b.length : Int) := by omega
        obtain ⟨bb, off, rfl, hbl, hcell⟩ := (HV.out.below hD.out.below).cell htl
        have e1 : b.getD k 255 = b.getD k 0 := by simp [List.getD, List.getElem?_eq_getElem htl]
        obtain ⟨p1, p2, p3, p4, p5⟩ := fill_next HBt.out (f := 0) (by decide) (by decide) hlt (by decide) rfl
        obtain ⟨q1, q2, q3, -, -⟩ := fill_next HBt.out (f := 255) (by decide) (by decide) hlt (by decide) e1
        have HP1 := Lib.hid p1
        have HQ1 := Lib.hid q1
        clear p1 q1 e1
        generalize b.getD k 0 = c at *
        generalize fillN b 0 k = lo at *
        generalize fillN b 255 k = hi at *
        have hw1 : IntKind.u64.wrap (lo * 256) = lo * 256 := by rw [IntKind.wrap_u64]; omega
        have hw2 : IntKind.u64.wrap (hi * 256) = hi * 256 := by rw [IntKind.wrap_u64]; omega
        have hw3 : IntKind.u64.wrap (lo * 256 + c) = lo * 256 + c := by rw [IntKind.wrap_u64]; omega
        have hw4 : IntKind.u64.wrap (hi * 256 + c) = hi * 256 + c := by rw [IntKind.wrap_u64]; omega
        have hu : IntKind.u64.wrap c = c := by rw [IntKind.wrap_u64]; omega
        go_wp2_with fail
        go_region
        all_goals
          go_wp2_with fail
          refine ⟨⟨k + 1, by omega, by rw [HP1.out], by rw [HQ1.out], by go_num, Lib.hid (Drawn.one hD.out)⟩, by simp [intOf] <;> omega⟩
      · have i2 : ¬ (k : Int) < (b.length : Int) := by omega
        have e0 : b.getD k 0 = 0 := by simp [List.getD, List.getElem?_eq_none (Nat.le_of_not_lt htl)]
        have e1 : b.getD k 255 = 255 := by simp [List.getD, List.getElem?_eq_none (Nat.le_of_not_lt htl)]
        obtain ⟨p1, p2, p3, -, -⟩ := fill_next HBt.out (f := 0) (by decide) (by decide) hlt (by decide) e0
        obtain ⟨q1, q2, q3, -, -⟩ := fill_next HBt.out (f := 255) (by decide) (by decide) hlt (by decide) e1
        have HP1 := Lib.hid p1
        have HQ1 := Lib.hid q1
        clear p1 q1 e0 e1
        generalize fillN b 0 k = lo at *
        generalize fillN b 255 k = hi at *
        have hw1 : IntKind.u64.wrap (lo * 256) = lo * 256 := by rw [IntKind.wrap_u64]; omega
        have hw2 : IntKind.u64.wrap (hi * 256) = hi * 256 := by rw [IntKind.wrap_u64]; omega
        have hw4 : IntKind.u64.wrap (hi * 256 + 255) = hi * 256 + 255 := by rw [IntKind.wrap_u64]; omega
        go_wp2_with fail
        refine ⟨⟨k + 1, by omega, by rw [HP1.out, Int.add_zero], by rw [HQ1.out], by go_num, hD⟩, by simp [intOf] <;> omega⟩
    · obtain rfl : k = 8 := by omega
      have i1 : ¬ ((8 : Nat) : Int) < 8 := by omega
      obtain ⟨⟨r0, r1⟩, r2, r3⟩ := HR.out
      have HK := Lib.hid (fun w => rkeyed_any (fillN b 0 8) w r0 (by omega))
      have HK2 := Lib.hid (fun w => rkeyed_any (fillN b 255 8) w r2 (by omega))
      generalize fillN b 0 8 = lo at *
      generalize fillN b 255 8 = hi at *
      by_cases h8 : 8 ≤ b.length
      · have i2 : (8 : Int) ≤ (b.length : Int) := by omega
        by_cases hk1 : Keyed lo
        · have HE2 := Lib.hid (show R = (lo, 0) by rw [HE.out, if_pos h8, if_pos hk1])
          rw [decide_eq_true hk1] at HK
          go_wp2_with fail
          refine (HK.out _).mono ?_; rintro e w1 ⟨rfl, rfl⟩
          go_wp2_with fail
          exact bodyPost_ret (v := .tuple #[.int .u64 lo, .int .i64 0]) (by simp [results, Try.results98, go_sem]) rfl ⟨by rw [HE2.out]; rfl, hD.out⟩
        · have HE2 := Lib.hid (show R = (0, 6) by rw [HE.out, if_pos h8, if_neg hk1])
          rw [decide_eq_false hk1] at HK
          go_wp2_with fail
          refine (HK.out _).mono ?_; rintro e w1 ⟨rfl, rfl⟩
          go_wp2_with fail
          exact bodyPost_ret (v := .tuple #[.int .u64 0, .int .i64 6]) (by simp [results, Try.results98, go_sem]) rfl ⟨by rw [HE2.out]; rfl, hD.out⟩
      · have i2 : ¬ (8 : Int) ≤ (b.length : Int) := by omega
        by_cases hk1 : Keyed lo
        · have HE2 := Lib.hid (show R = (0, 5) by rw [HE.out, if_neg h8, if_pos (.inl hk1)])
          rw [decide_eq_true hk1] at HK
          go_wp2_with fail
          refine (HK.out _).mono ?_; rintro e w1 ⟨rfl, rfl⟩
          go_wp2_with fail
          exact bodyPost_ret (v := .tuple #[.int .u64 0, .int .i64 5]) (by simp [results, Try.results98, go_sem]) rfl ⟨by rw [HE2.out]; rfl, hD.out⟩
        · rw [decide_eq_false hk1] at HK
          by_cases hk2 : Keyed hi
          · have HE2 := Lib.hid (show R = (0, 5) by rw [HE.out, if_neg h8, if_pos (.inr (.inl hk2))])
            rw [decide_eq_true hk2] at HK2
            go_wp2_with fail
            refine (HK.out _).mono ?_; rintro e w1 ⟨rfl, rfl⟩
            go_wp2_with fail
            refine (HK2.out _).mono ?_; rintro e w1 ⟨rfl, rfl⟩
            go_wp2_with fail
            exact bodyPost_ret (v := .tuple #[.int .u64 0, .int .i64 5]) (by simp [results, Try.results98, go_sem]) rfl ⟨by rw [HE2.out]; rfl, hD.out⟩
          · rw [decide_eq_false hk2] at HK2
            by_cases a1 : lo < (9223372036854775808 : Int)
            · by_cases a2 : (9223372036854775808 : Int) ≤ hi
              · have HE2 := Lib.hid (show R = (0, 5) by rw [HE.out, if_neg h8, if_pos (.inr (.inr ⟨a1, a2⟩))])
                go_wp2_with fail
                refine (HK.out _).mono ?_; rintro e w1 ⟨rfl, rfl⟩
                go_wp2_with fail
                refine (HK2.out _).mono ?_; rintro e w1 ⟨rfl, rfl⟩
                go_wp2_with fail
                exact bodyPost_ret (v := .tuple #[.int .u64 0, .int .i64 5]) (by simp [results, Try.results98, go_sem]) rfl ⟨by rw [HE2.out]; rfl, hD.out⟩
              · have HE2 := Lib.hid (show R = (0, 6) by rw [HE.out, if_neg h8, if_neg (by rintro (h | h | h); exact hk1 h; exact hk2 h; exact a2 h.2)])
                go_wp2_with fail
                refine (HK.out _).mono ?_; rintro e w1 ⟨rfl, rfl⟩
                go_wp2_with fail
                refine (HK2.out _).mono ?_; rintro e w1 ⟨rfl, rfl⟩
                go_wp2_with fail
                exact bodyPost_ret (v := .tuple #[.int .u64 0, .int .i64 6]) (by simp [results, Try.results98, go_sem]) rfl ⟨by rw [HE2.out]; rfl, hD.out⟩
            · have HE2 := Lib.hid (show R = (0, 6) by rw [HE.out, if_neg h8, if_neg (by rintro (h | h | h); exact hk1 h; exact hk2 h; exact a1 h.1)])
              go_wp2_with fail
              refine (HK.out _).mono ?_; rintro e w1 ⟨rfl, rfl⟩
              go_wp2_with fail
              refine (HK2.out _).mono ?_; rintro e w1 ⟨rfl, rfl⟩
              go_wp2_with fail
              exact bodyPost_ret (v := .tuple #[.int .u64 0, .int .i64 6]) (by simp [results, Try.results98, go_sem]) rfl ⟨by rw [HE2.out]; rfl, hD.out⟩
end Go.Proofs.Ytdlebcjkokabjaa
