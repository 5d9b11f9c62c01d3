/- bushelref04: deviations. -/
import Derived.Test.YtjfcnpanodkmnaaDoorRatm
import Derived.Test.YtjfcnpanodkmnaaDoorRefs
namespace Go.Proofs.YtjfcnpanodkmnaaDoor
set_option maxRecDepth 100000
open Go.RowKit
set_option linter.unusedVariables false
theorem run_qnan {P : Program} (t : TypeId) (w : World) : (binOp .quo t (.float .f64 0) (.float .f64 0)).run P w = .ok (.float .f64 (nanOf w 0)) w.drew := by
  have h2 : FloatKind.f64.format.div 0 0 = none := by decide +kernel
  simp [binOp, Op.floatArith, h2, nanOf, Question.forced]
def NanPost (w : World) (e : Ending) (w' : World) : Prop := (∃ X : Nat, isNaNB X = true ∧ W64 X ∧ e = .returned (.float .f64 X)) ∧ Below w.heap.size w w'
set_option maxHeartbeats 400000 in
theorem rnone_any (w : World) : Calls Tryd.prog 30 #[] w (NanPost w) := by
  have hop := fun t w => run_qnan (P := Tryd.prog) t w
  go_enter Tryd.func30, Tryd.ntmps30
  go_wp2_with (simp only [hop])
  go_ret
  exact ⟨⟨_, (nanOf_nan _ _).1, (nanOf_nan _ _).2, rfl⟩, (Below.refl _ _).drew⟩
set_option maxHeartbeats 400000 in
theorem rinf_any (w : World) : Calls Tryd.prog 31 #[] w fun e w' => e = .returned (.float .f64 9218868437227405312) ∧ w = w' := by
  have hf : floatBits .quo .f64 4607182418800017408 0 = some 9218868437227405312 := by decide +kernel
  have hop : ∀ t w, (binOp .quo t (.float .f64 4607182418800017408) (.float .f64 0)).run Tryd.prog w = .ok (.float .f64 9218868437227405312) w := fun t w => run_float_arith w .quo t .f64 _ _ _ hf
  clear hf
  go_enter Tryd.func31, Tryd.ntmps31
  go_wp2_with (simp only [hop])
  go_ret
  exact ⟨rfl, rfl⟩
theorem le_cast {z N K : Nat} (h : z < 2 ^ N) (hN : N ≤ K) : (z : Int) ≤ 2 ^ K := by
  rw [two_cast]
  exact Int.ofNat_le.2 (Nat.le_of_lt (Nat.lt_of_lt_of_le h (Nat.pow_le_pow_right (by decide) hN)))
theorem mid_of {z N : Nat} (h : bitsZ (z : Int) ≤ N) (hN : N ≤ 3300) : Mid z := le_cast (lt_bits h) hN
set_option maxHeartbeats 4000000 in
theorem rlong_any (vp vq : Value) (p q : Nat) (w : World) (hp : IsNum w vp p) (hq : IsNum w vq q) (lp : bitsZ (p : Int) ≤ 3000) (lq : bitsZ (q : Int) ≤ 3000) :
    Calls Tryd.prog 29 #[vp, vq] w fun r w' => r = .returned (.bool false) ∧ Below w.heap.size w w' := by
  obtain ⟨pb, pp, pl, pc, rfl⟩ := hp.shape
  obtain ⟨qb, qp, ql, qc, rfl⟩ := hq.shape
  obtain ⟨N, hN⟩ : ∃ N : Nat, N = 3000 := ⟨_, rfl⟩
  have hB := below_two w (.cells #[.bool pb, .slice pp pl pc] 30) (.cells #[.bool qb, .slice qp ql qc] 30)
  have HP := Lib.hid (hp.below hB)
  have HQ := Lib.hid (hq.below hB)
  have hF : Four' w.heap.size (.bool pb) (.slice pp pl pc) (.bool qb) (.slice qp ql qc) ((w.alloc (.cells #[.bool pb, .slice pp pl pc] 30)).alloc (.cells #[.bool qb, .slice qp ql qc] 30)) :=
    ⟨cell_later (below_one _ _) (by simp [go_sem]), cell_later (below_one _ _) (by simp [go_sem]), by simp [go_sem], by simp [go_sem]⟩
  have hF := Lib.hid hF
  have HB := Lib.hid hB
  have HT := Lib.hid (fun w1 => two_num 3000 N (Lib.hid (by omega)) w1 (by omega))
  have h2s := sized_two (N := N) (by omega)
  have l1 : (p : Int) < 2 ^ N := by rw [two_cast]; exact Int.ofNat_lt.2 (lt_bits (by omega))
  have l2 : (q : Int) < 2 ^ N := by rw [two_cast]; exact Int.ofNat_lt.2 (lt_bits (by omega))
  have HC := Lib.hid (fun w1 u v (z : Nat) (hz : (z : Int) < 2 ^ N) (hu : IsNum w1 u (z : Int)) (hv : IsNum w1 v (2 ^ N)) => (by
    have h := num_cmp u v (z : Int) (2 ^ N) 20000 w1 hu hv (sized_less (by omega) (Int.le_of_lt hz) (by omega)) h2s (by decide)
    rw [cmpI_lt hz] at h; exact h : Calls Tryd.prog 43 #[u, v] w1 (Compared w1 (-1))))
  have L1 := Lib.hid l1
  have L2 := Lib.hid l2
  clear hp hq hB hN h2s l1 l2 lp lq
  go_enter Tryd.func29, Tryd.ntmps29
  go_wp2_with fail
  generalize (w.alloc (.cells #[.bool pb, .slice pp pl pc] 30)).alloc (.cells #[.bool qb, .slice qp ql qc] 30) = W at *
  have hk := Four'.call hF.out (Below.refl _ _).drew
  have hBw : Below W.heap.size W W.drew := (Below.refl _ _).drew
  go_region_held3 (fun w' => w'.cell? ⟨w.heap.size, 0, none⟩ = some (.bool pb) ∧ w'.cell? ⟨w.heap.size, 1, none⟩ = some (.slice pp pl pc) ∧ w'.cell? ⟨w.heap.size + 1, 0, none⟩ = some (.bool qb) ∧ w'.cell? ⟨w.heap.size + 1, 1, none⟩ = some (.slice qp ql qc))
    (with_reducible exact hk)
    (first
      | (go_at_call 33; refine (HT.out _).mono ?_; rintro r w1 ⟨t, rfl, ht, hb1⟩; have hk := Four'.call hk hb1; have hBw := hBw.trans (hb1.mono hBw.size))
      | (go_at_call_of 43 pp; refine (HC.out _ _ _ p L1.out (HP.out.below hBw) ht).mono ?_; rintro r w3 ⟨rfl, hb3⟩; have hk := Four'.call hk hb3; have hBw := hBw.trans (hb3.mono hBw.size))
      | (go_at_call_of 43 qp; refine (HC.out _ _ _ q L2.out (HQ.out.below hBw) ht).mono ?_; rintro r w3 ⟨rfl, hb3⟩; have hk := Four'.call hk hb3; have hBw := hBw.trans (hb3.mono hBw.size)))
  all_goals
    have hE := HB.out.trans (hBw.mono HB.out.size)
    clear hk hBw
    go_wp2_with fail
    go_ret
    exact ⟨rfl, hE⟩
theorem num_abs {w : World} {b : Bool} {s : Value} {x : Int} (h : IsNum w (.agg #[.bool b, s]) x) : IsNum w (.agg #[.bool false, s]) (x.natAbs : Int) := by
  obtain ⟨neg, s', ds, e, h1, h2, h3, h4, h5, h6⟩ := h
  simp only [Value.agg.injEq, Array.mk.injEq, List.cons.injEq, and_true, Value.bool.injEq] at e
  obtain ⟨rfl, rfl⟩ := e
  refine ⟨false, s, ds, rfl, h1, h2, h3, h4, (fun e => by cases e), ?_⟩
  have h0 := (val_range h3).1
  rw [h6]
  cases b <;> simp [signed] <;> omega
set_option maxHeartbeats 1000000 in
theorem rsize_any (x : Int) (w : World) (h1 : -9223372036854775808 ≤ x) (h2 : x ≤ 9223372036854775807) :
    Calls Tryd.prog 39 #[.int .i64 x] w (MadeNum w (x.natAbs : Int)) := by
  have hk0 := Lib.hid (Kept.start w (.bool false) (.slice none 0 0) 30)
  have hO := Lib.hid (fun w1 => of_any x w1 h1 h2)
  go_enter Tryd.func39, Tryd.ntmps39
  go_wp2_with fail
  refine (hO.out _).mono ?_; rintro e w4 ⟨q, rfl, hq, hb4⟩
  obtain ⟨rn, rp, rl, rc, rfl⟩ := hq.shape
  have hk := hk0.out.call hb4
  have hb5 := below_one w4 (.cells #[.bool rn, .slice rp rl rc] 30)
  have hk := hk.call hb5
  have hq5 := num_abs (hq.below hb5)
  have hc5 : (w4.alloc (.cells #[.bool rn, .slice rp rl rc] 30)).cell? ⟨w4.heap.size, 1, none⟩ = some (.slice rp rl rc) := by simp [go_sem]
  obtain ⟨⟨x1, hx1⟩, ⟨y1, hy1⟩, hf1, hf2⟩ := hk.cells
  have hN := Lib.hid (hk.num hq5)
  have hE := Lib.hid (hk.store (.bool false) (.slice rp rl rc)).1
  clear hb4 hk0 hq hb5 hq5 hk
  go_wp2_with fail
  exact bodyPost_ret (v := .agg #[.bool false, .slice rp rl rc]) (by simp [results, Tryd.results39, go_sem, hx1, hy1]) rfl ⟨_, rfl, hN.out, hE.out⟩
/-- What a quotient of the reference is. -/
def QuotPost (neg : Bool) (p q : Nat) (w : World) (e : Ending) (w' : World) : Prop := ((p = 0 ∧ q = 0 ∧ ∃ X : Nat, isNaNB X = true ∧ W64 X ∧ e = .returned (.float .f64 X)) ∨ (¬ (p = 0 ∧ q = 0) ∧ e = .returned (.float .f64 (signN neg (quoN p q))))) ∧ Below w.heap.size w w'
theorem len_test {l : Nat} {z : Nat} (h : l = 0 ↔ (z : Int) = 0) : ((l : Int) == 0) = decide (z = 0) := by
  rw [Bool.eq_iff_iff]; simp; omega
set_option maxHeartbeats 4000000 in
theorem rquot_any (neg : Bool) (vp vq : Value) (p q : Nat) (w : World) (hp : IsNum w vp p) (hq : IsNum w vq q) (lp : bitsZ (p : Int) ≤ 3000) (lq : bitsZ (q : Int) ≤ 3000) :
    Calls Tryd.prog 38 #[.bool neg, vp, vq] w (QuotPost neg p q w) := by
  obtain ⟨pb, pp, pl, pc, rfl⟩ := hp.shape
  obtain ⟨qb, qp, ql, qc, rfl⟩ := hq.shape
  have hB := below_two w (.cells #[.bool pb, .slice pp pl pc] 30) (.cells #[.bool qb, .slice qp ql qc] 30)
  have HP := Lib.hid (hp.below hB)
  have HQ := Lib.hid (hq.below hB)
  have hF : Four' w.heap.size (.bool pb) (.slice pp pl pc) (.bool qb) (.slice qp ql qc) ((w.alloc (.cells #[.bool pb, .slice pp pl pc] 30)).alloc (.cells #[.bool qb, .slice qp ql qc] 30)) :=
    ⟨cell_later (below_one _ _) (by simp [go_sem]), cell_later (below_one _ _) (by simp [go_sem]), by simp [go_sem], by simp [go_sem]⟩
  have hF := Lib.hid hF
  have HB := Lib.hid hB
  have HL := Lib.hid (fun w1 u v (hu : IsNum w1 u (p : Int)) (hv : IsNum w1 v (q : Int)) => rlong_any u v p q w1 hu hv lp lq)
  have HNo := Lib.hid (fun w => rnone_any w)
  have HIn := Lib.hid (fun w => rinf_any w)
  have HSi := Lib.hid (fun w => rsign_any neg 9218868437227405312 w (by decide))
  have HSz := Lib.hid (fun w => rsign_any neg 0 w (by decide))
  have T1 := Lib.hid (len_test (num_len hp))
  have T2 := Lib.hid (len_test (num_len hq))
  have HNr := Lib.hid (fun (hq0 : q ≠ 0) w1 u v (hu : IsNum w1 u (p : Int)) (hv : IsNum w1 v (q : Int)) => rnearq_any u v p q 0 w1 hu hv (mid_of lp (by decide)) (mid_of lq (by decide)) hq0 (by decide) (by decide))
  have HSn := Lib.hid (fun (hp0 : p ≠ 0) (hq0 : q ≠ 0) w => rsign_any neg (nearQ p q 0) w (by have := nearQ_le hp0 hq0; unfold W64; omega))
  have hQ1 : q = 0 → p ≠ 0 → quoN p q = 9218868437227405312 := fun e1 e2 => by unfold quoN extW; rw [if_pos (.inr e1), if_pos (by omega), if_neg (by omega)]
  have hQ2 : q ≠ 0 → p = 0 → quoN p q = 0 := fun e1 e2 => by unfold quoN extW; rw [if_pos (.inl e2), if_neg (by omega)]
  have hQ3 : q ≠ 0 → p ≠ 0 → quoN p q = nearQ p q 0 := fun e1 e2 => by unfold quoN; rw [if_neg (by omega)]
  have HQ1 := Lib.hid hQ1
  have HQ2 := Lib.hid hQ2
  have HQ3 := Lib.hid hQ3
  generalize nearQ p q 0 = R3 at *
  clear hp hq hB lp lq hQ1 hQ2 hQ3
  by_cases hp0 : p = 0
  · by_cases hq0 : q = 0
    · have t1 : ((pl : Int) == 0) = true := by rw [T1.out]; simpa using hp0
      have t2 : ((ql : Int) == 0) = true := by rw [T2.out]; simpa using hq0
      have H0 := Lib.hid (And.intro hp0 hq0)
      clear hp0 hq0 HNr HSn
      go_enter Tryd.func38, Tryd.ntmps38
      have ⟨f1, f2, f3, f4⟩ := hF.out
      go_wp2_with fail
      refine (HL.out _ _ _ HP.out HQ.out).mono ?_; rintro r w1 ⟨rfl, hb⟩
      obtain ⟨f1, f2, f3, f4⟩ := Four'.call hF.out hb
      have HE := Lib.hid (HB.out.trans (hb.mono HB.out.size))
      clear hb hF HB HP HQ HL
      go_wp2_with fail
      refine (HNo.out _).mono ?_; rintro r w2 ⟨⟨X, x1, x2, rfl⟩, hb2⟩
      have HX := Lib.hid (And.intro x1 x2)
      clear x1 x2
      go_wp2_with fail
      go_ret
      exact ⟨.inl ⟨H0.out.1, H0.out.2, X, HX.out.1, HX.out.2, rfl⟩, HE.out.trans (hb2.mono HE.out.size)⟩
    · have t1 : ((pl : Int) == 0) = true := by rw [T1.out]; simpa using hp0
      have t2 : ((ql : Int) == 0) = false := by rw [T2.out]; simpa using hq0
      have hR := HQ2.out hq0 hp0
      have H0 := Lib.hid (show ¬ (p = 0 ∧ q = 0) from fun e => hq0 e.2)
      have HG := Lib.hid (show signN neg (quoN p q) = signN neg 0 by rw [hR])
      clear hp0 hq0 HNr HSn hR
      generalize signN neg 0 = RR at *
      go_enter Tryd.func38, Tryd.ntmps38
      have ⟨f1, f2, f3, f4⟩ := hF.out
      go_wp2_with fail
      refine (HL.out _ _ _ HP.out HQ.out).mono ?_; rintro r w1 ⟨rfl, hb⟩
      obtain ⟨f1, f2, f3, f4⟩ := Four'.call hF.out hb
      have HE := Lib.hid (HB.out.trans (hb.mono HB.out.size))
      clear hb hF HB HP HQ HL
      go_wp2_with fail
      refine (HSz.out _).mono ?_; rintro r w2 ⟨rfl, rfl⟩
      go_wp2_with fail
      go_ret
      exact ⟨.inr ⟨H0.out, ret_float HG.out.symm⟩, HE.out⟩
  · by_cases hq0 : q = 0
    · have t1 : ((pl : Int) == 0) = false := by rw [T1.out]; simpa using hp0
      have t2 : ((ql : Int) == 0) = true := by rw [T2.out]; simpa using hq0
      have hR := HQ1.out hq0 hp0
      have H0 := Lib.hid (show ¬ (p = 0 ∧ q = 0) from fun e => hp0 e.1)
      have HG := Lib.hid (show signN neg (quoN p q) = signN neg 9218868437227405312 by rw [hR])
      clear hp0 hq0 HNr HSn hR
      generalize signN neg 9218868437227405312 = RR at *
      go_enter Tryd.func38, Tryd.ntmps38
      have ⟨f1, f2, f3, f4⟩ := hF.out
      go_wp2_with fail
      refine (HL.out _ _ _ HP.out HQ.out).mono ?_; rintro r w1 ⟨rfl, hb⟩
      obtain ⟨f1, f2, f3, f4⟩ := Four'.call hF.out hb
      have HE := Lib.hid (HB.out.trans (hb.mono HB.out.size))
      clear hb hF HB HP HQ HL
      go_wp2_with fail
      refine (HIn.out _).mono ?_; rintro r w2 ⟨rfl, rfl⟩
      go_wp2_with fail
      refine (HSi.out _).mono ?_; rintro r w2 ⟨rfl, rfl⟩
      go_wp2_with fail
      go_ret
      exact ⟨.inr ⟨H0.out, ret_float HG.out.symm⟩, HE.out⟩
    · have t1 : ((pl : Int) == 0) = false := by rw [T1.out]; simpa using hp0
      have t2 : ((ql : Int) == 0) = false := by rw [T2.out]; simpa using hq0
      have hR := HQ3.out hq0 hp0
      have H0 := Lib.hid (show ¬ (p = 0 ∧ q = 0) from fun e => hp0 e.1)
      have HNr := Lib.hid (HNr.out hq0)
      have HSn := Lib.hid (HSn.out hp0 hq0)
      have HG := Lib.hid (show signN neg (quoN p q) = signN neg R3 by rw [hR])
      clear hp0 hq0 hR
      generalize signN neg R3 = RR at *
      go_enter Tryd.func38, Tryd.ntmps38
      have ⟨f1, f2, f3, f4⟩ := hF.out
      go_wp2_with fail
      refine (HL.out _ _ _ HP.out HQ.out).mono ?_; rintro r w1 ⟨rfl, hb⟩
      obtain ⟨f1, f2, f3, f4⟩ := Four'.call hF.out hb
      have HE := Lib.hid (HB.out.trans (hb.mono HB.out.size))
      have HNr2 := Lib.hid (HNr.out w1 _ _ (HP.out.below hb) (HQ.out.below hb))
      clear hb hF HB HP HQ HL HNr
      go_wp2_with fail
      refine (HNr2.out).mono ?_; rintro r w2 ⟨rfl, hb2⟩
      have HE := Lib.hid (HE.out.trans (hb2.mono HE.out.size))
      clear hb2 f1 f2 f3 f4
      go_wp2_with fail
      refine (HSn.out _).mono ?_; rintro r w3 ⟨rfl, rfl⟩
      go_wp2_with fail
      go_ret
      exact ⟨.inr ⟨H0.out, ret_float HG.out.symm⟩, HE.out⟩
/-- What a mean of the reference is. -/
def MeanPost (s n : Int) (w : World) (e : Ending) (w' : World) : Prop := ((s = 0 ∧ n = 0 ∧ ∃ X : Nat, isNaNB X = true ∧ W64 X ∧ e = .returned (.float .f64 X)) ∨ (¬ (s = 0 ∧ n = 0) ∧ e = .returned (.float .f64 (signN (meanNeg s n) (quoN s.natAbs n.natAbs))))) ∧ Below w.heap.size w w'
set_option maxHeartbeats 4000000 in
theorem rmean_any (s n : Int) (w : World) (s1 : -9223372036854775808 ≤ s) (s2 : s ≤ 9223372036854775807) (n1 : -9223372036854775808 ≤ n) (n2 : n ≤ 9223372036854775807) :
    Calls Tryd.prog 12 #[.int .i64 s, .int .i64 n] w (MeanPost s n w) := by
  by_cases h0 : s = 0 ∧ n ≠ 0
  · have hR : signN (meanNeg s n) (quoN s.natAbs n.natAbs) = 0 := by
      have h1 : meanNeg s n = false := by unfold meanNeg; simp [h0.1]
      rw [h1, sign_pos]
      unfold quoN extW
      rw [if_pos (.inl (by omega)), if_neg (by omega)]
    have HR := Lib.hid hR
    have q1 : (s == 0) = true := by simp [h0.1]
    have q2 : (n != 0) = true := by simp [h0.2]
    have H0 := Lib.hid (show ¬ (s = 0 ∧ n = 0) from fun e => h0.2 e.2)
    clear h0 hR
    go_enter Tryd.func12, Tryd.ntmps12
    go_wp2_with fail
    go_ret
    exact ⟨.inr ⟨H0.out, ret_float HR.out.symm⟩, Below.refl _ _⟩
  · have HS := Lib.hid (fun w => rsize_any s w s1 s2)
    have HN := Lib.hid (fun w => rsize_any n w n1 n2)
    have HQ := Lib.hid (fun (w1 : World) b u v (h1 : IsNum w1 u (s.natAbs : Int)) (h2 : IsNum w1 v (n.natAbs : Int)) => rquot_any b u v s.natAbs n.natAbs w1 h1 h2 (Nat.le_trans (bits64 s1 s2) (by decide)) (Nat.le_trans (bits64 n1 n2) (by decide)))
    have hz : s.natAbs = 0 ↔ s = 0 := by omega
    have hz2 : n.natAbs = 0 ↔ n = 0 := by omega
    have HZ := Lib.hid (And.intro hz hz2)
    have hcase : (s = 0 ∧ n = 0) ∨ (s < 0 ∧ n < 0 ∧ meanNeg s n = false) ∨ (s < 0 ∧ ¬ n < 0 ∧ meanNeg s n = true) ∨ (0 < s ∧ n < 0 ∧ meanNeg s n = true) ∨ (0 < s ∧ ¬ n < 0 ∧ meanNeg s n = false) := by
      unfold meanNeg
      rcases Int.lt_trichotomy s 0 with h | h | h
      · by_cases k : n < 0 <;> simp [h, k] <;> omega
      · exact .inl ⟨h, Classical.byContradiction fun hh => h0 ⟨h, hh⟩⟩
      · by_cases k : n < 0 <;> simp [h, k] <;> omega
    have hfin : ∀ (B : Bool), (B = meanNeg s n ∨ (s = 0 ∧ n = 0)) → ∀ (w w' : World) (e : Ending), QuotPost B s.natAbs n.natAbs w e w' → MeanPost s n w e w' := fun B hb w w' e h => by
      refine ⟨?_, h.2⟩
      rcases h.1 with ⟨k1, k2, k3⟩ | ⟨k1, k2⟩
      · exact .inl ⟨hz.1 k1, hz2.1 k2, k3⟩
      · refine .inr ⟨fun e => k1 ⟨hz.2 e.1, hz2.2 e.2⟩, ?_⟩
        rcases hb with g | ⟨g1, g2⟩
        · rw [k2, g]
        · exact absurd ⟨hz.2 g1, hz2.2 g2⟩ k1
    have HF := Lib.hid hfin
    clear h0 hz hz2 hfin HZ
    rcases hcase with ⟨h1, h2⟩ | ⟨h1, h2, h3⟩ | ⟨h1, h2, h3⟩ | ⟨h1, h2, h3⟩ | ⟨h1, h2, h3⟩
    all_goals
      first
        | (have HK := Lib.hid (fun w1 u v k1 k2 => HQ.out w1 false u v k1 k2); have HG := Lib.hid (HF.out false (.inr ⟨h1, h2⟩)); have q1 : (s == 0) = true := (by simp [h1]); have q2 : (n != 0) = false := (by simp [h2]))
        | (have HK := Lib.hid (fun w1 u v k1 k2 => HQ.out w1 false u v k1 k2); have HG := Lib.hid (HF.out false (.inl h3.symm)); have q1 : (s == 0) = false := by simp; omega)
        | (have HK := Lib.hid (fun w1 u v k1 k2 => HQ.out w1 true u v k1 k2); have HG := Lib.hid (HF.out true (.inl h3.symm)); have q1 : (s == 0) = false := by simp; omega)
      first
        | (have q3 : decide (s < 0) = true := by simp; omega)
        | (have q3 : decide (s < 0) = false := by simp; omega)
      first
        | (have q4 : decide (n < 0) = true := by simp; omega)
        | (have q4 : decide (n < 0) = false := by simp; omega)
      first | clear h3 | skip
      clear h1 h2 HQ HF
      generalize s.natAbs = S at *
      generalize n.natAbs = N at *
      go_enter Tryd.func12, Tryd.ntmps12
      go_wp2_with fail
      refine (HS.out _).mono ?_; rintro r w1 ⟨y1, rfl, g1, g2⟩
      have HY := Lib.hid g1
      have HE := Lib.hid g2
      obtain ⟨pb, pp, pl, pc, rfl⟩ := g1.shape
      clear g1 g2 HS
      go_wp2_with fail
      refine (HN.out _).mono ?_; rintro r w2 ⟨y2, rfl, g1, g2⟩
      have HQ2 := Lib.hid (HK.out w2 _ y2 (HY.out.below g2) g1)
      have HE2 := Lib.hid (HE.out.trans (g2.mono HE.out.size))
      obtain ⟨qb, qp, ql, qc, rfl⟩ := g1.shape
      clear g1 g2 HN HE HY HK
      go_wp2_with fail
      refine (HQ2.out).mono ?_; rintro r w3 hqp
      obtain ⟨hm1, hm2⟩ := HG.out _ _ _ hqp
      obtain ⟨R, rfl⟩ : ∃ R, r = .returned (.float .f64 R) := by
        rcases hqp.1 with ⟨-, -, X, -, -, e⟩ | ⟨-, e⟩ <;> exact ⟨_, e⟩
      have HM := Lib.hid (show MeanPost s n w (.returned (.float .f64 R)) w3 from ⟨hm1, HE2.out.trans (hm2.mono HE2.out.size)⟩)
      clear hm1 hm2 hqp HQ2 HG HE2
      go_wp2_with fail
      go_ret
      exact HM.out
set_option maxRecDepth 100000
open Go.RowKit
set_option linter.unusedVariables false
/-- What a root of the reference is. -/
def RRootPost (p q : Nat) (w : World) (e : Ending) (w' : World) : Prop :=
  ((p = 0 ∧ q = 0 ∧ ∃ X : Nat, isNaNB X = true ∧ W64 X ∧ e = .returned (.float .f64 X)) ∨ (¬ (p = 0 ∧ q = 0) ∧ (p = 0 ∨ q = 0) ∧ e = .returned (.float .f64 (extW (p : Int) (q : Int)))) ∨ (p ≠ 0 ∧ q ≠ 0 ∧ ∃ m, IsFit p q m ∧ e = .returned (.float .f64 (nearW (upFit p q m) (uF p q))))) ∧ Below w.heap.size w w'
theorem big_pow {m : Nat} (h : m ≤ 18446744073709551616) : m ≤ 2 ^ 70 := Nat.le_trans h (by decide)
set_option maxHeartbeats 4000000 in
theorem rroot_nil (vp vq : Value) (p q : Nat) (w : World) (hp : IsNum w vp p) (hq : IsNum w vq q) (lp : bitsZ (p : Int) ≤ 3000) (lq : bitsZ (q : Int) ≤ 3000) (h0 : p = 0 ∨ q = 0) :
    Calls Tryd.prog 9 #[vp, vq] w (RRootPost p q w) := by
  obtain ⟨pb, pp, pl, pc, rfl⟩ := hp.shape
  obtain ⟨qb, qp, ql, qc, rfl⟩ := hq.shape
  have hB := below_two w (.cells #[.bool pb, .slice pp pl pc] 30) (.cells #[.bool qb, .slice qp ql qc] 30)
  have HP := Lib.hid (hp.below hB)
  have HQ := Lib.hid (hq.below hB)
  have hF : Four' w.heap.size (.bool pb) (.slice pp pl pc) (.bool qb) (.slice qp ql qc) ((w.alloc (.cells #[.bool pb, .slice pp pl pc] 30)).alloc (.cells #[.bool qb, .slice qp ql qc] 30)) :=
    ⟨cell_later (below_one _ _) (by simp [go_sem]), cell_later (below_one _ _) (by simp [go_sem]), by simp [go_sem], by simp [go_sem]⟩
  have hF := Lib.hid hF
  have HB := Lib.hid hB
  have HL := Lib.hid (fun w1 u v (hu : IsNum w1 u (p : Int)) (hv : IsNum w1 v (q : Int)) => rlong_any u v p q w1 hu hv lp lq)
  have HNo := Lib.hid (fun w => rnone_any w)
  have HIn := Lib.hid (fun w => rinf_any w)
  have T1 := Lib.hid (len_test (num_len hp))
  have T2 := Lib.hid (len_test (num_len hq))
  clear hp hq hB lp lq
  by_cases hp0 : p = 0
  · by_cases hq0 : q = 0
    · have t1 : ((pl : Int) == 0) = true := by rw [T1.out]; simpa using hp0
      have t2 : ((ql : Int) == 0) = true := by rw [T2.out]; simpa using hq0
      have H0 := Lib.hid (And.intro hp0 hq0)
      clear hp0 hq0 h0
      go_enter Tryd.func9, Tryd.ntmps9
      have ⟨f1, f2, f3, f4⟩ := hF.out
      go_wp2_with fail
      refine (HL.out _ _ _ HP.out HQ.out).mono ?_; rintro r w1 ⟨rfl, hb⟩
      obtain ⟨f1, f2, f3, f4⟩ := Four'.call hF.out hb
      have HE := Lib.hid (HB.out.trans (hb.mono HB.out.size))
      clear hb hF HB HP HQ HL
      go_wp2_with fail
      refine (HNo.out _).mono ?_; rintro r w2 ⟨⟨X, x1, x2, rfl⟩, hb2⟩
      have HX := Lib.hid (show RRootPost p q w (.returned (.float .f64 X)) w2 from ⟨.inl ⟨H0.out.1, H0.out.2, X, x1, x2, rfl⟩, HE.out.trans (hb2.mono HE.out.size)⟩)
      clear x1 x2 hb2
      go_wp2_with fail
      go_ret
      exact HX.out
    · have t1 : ((pl : Int) == 0) = true := by rw [T1.out]; simpa using hp0
      have t2 : ((ql : Int) == 0) = false := by rw [T2.out]; simpa using hq0
      have hR : extW (p : Int) (q : Int) = 0 := by unfold extW; rw [if_neg (by omega)]
      have H0 := Lib.hid (And.intro (show ¬ (p = 0 ∧ q = 0) from fun e => hq0 e.2) (And.intro (show p = 0 ∨ q = 0 from .inl hp0) hR))
      clear hp0 hq0 h0 hR
      go_enter Tryd.func9, Tryd.ntmps9
      have ⟨f1, f2, f3, f4⟩ := hF.out
      go_wp2_with fail
      refine (HL.out _ _ _ HP.out HQ.out).mono ?_; rintro r w1 ⟨rfl, hb⟩
      obtain ⟨f1, f2, f3, f4⟩ := Four'.call hF.out hb
      have HX := Lib.hid (show RRootPost p q w (.returned (.float .f64 0)) w1 from ⟨.inr (.inl ⟨H0.out.1, H0.out.2.1, ret_float H0.out.2.2.symm⟩), HB.out.trans (hb.mono HB.out.size)⟩)
      clear hb hF HB HP HQ HL
      go_wp2_with fail
      go_ret
      exact HX.out
  · have hq0 : q = 0 := by rcases h0 with h | h; exact absurd h hp0; exact h
    have t1 : ((pl : Int) == 0) = false := by rw [T1.out]; simpa using hp0
    have t2 : ((ql : Int) == 0) = true := by rw [T2.out]; simpa using hq0
    have hR : extW (p : Int) (q : Int) = 9218868437227405312 := by unfold extW; rw [if_pos (by omega), if_neg (by omega)]
    have H0 := Lib.hid (And.intro (show ¬ (p = 0 ∧ q = 0) from fun e => hp0 e.1) (And.intro (show p = 0 ∨ q = 0 from .inr hq0) hR))
    clear hp0 hq0 h0 hR
    go_enter Tryd.func9, Tryd.ntmps9
    have ⟨f1, f2, f3, f4⟩ := hF.out
    go_wp2_with fail
    refine (HL.out _ _ _ HP.out HQ.out).mono ?_; rintro r w1 ⟨rfl, hb⟩
    obtain ⟨f1, f2, f3, f4⟩ := Four'.call hF.out hb
    have HX := Lib.hid (show RRootPost p q w (.returned (.float .f64 9218868437227405312)) w1 from ⟨.inr (.inl ⟨H0.out.1, H0.out.2.1, ret_float H0.out.2.2.symm⟩), HB.out.trans (hb.mono HB.out.size)⟩)
    clear hb hF HB HP HQ HL
    go_wp2_with fail
    refine (HIn.out _).mono ?_; rintro r w2 ⟨rfl, rfl⟩
    go_wp2_with fail
    go_ret
    exact HX.out
theorem le_bits {z N K : Nat} (h : bitsZ (z : Int) ≤ N) (hN : N ≤ K) : z ≤ 2 ^ K := Nat.le_of_lt (Nat.lt_of_lt_of_le (lt_bits h) (Nat.pow_le_pow_right (by decide) hN))
abbrev OneAt (X : Nat) (a b : Value) (w : World) : Prop := w.cell? ⟨X, 0, none⟩ = some a ∧ w.cell? ⟨X, 1, none⟩ = some b
theorem OneAt.call {X : Nat} {a b : Value} {w w' : World} (h : OneAt X a b w) (hb : Below w.heap.size w w') : OneAt X a b w' := ⟨cell_later hb h.1, cell_later hb h.2⟩
theorem OneAt.alloc {X : Nat} {a b : Value} {w : World} {o : Obj} (h : OneAt X a b w) : OneAt X a b (w.alloc o) := h.call (below_one w o)
theorem OneAt.drew {X : Nat} {a b : Value} {w : World} (h : OneAt X a b w) : OneAt X a b w.drew := h.call (Below.refl _ _).drew
theorem OneAt.set {X M : Nat} {a b u v : Value} {w : World} (h : OneAt X a b w) (hne : X ≠ M) : OneAt X a b ((w.setCell ⟨M, 0, none⟩ u).setCell ⟨M, 1, none⟩ v) := by
  obtain ⟨h1, h2⟩ := h
  exact ⟨by rw [World.cell?_setCell_far _ _ _ _ (by simp; omega), World.cell?_setCell_far _ _ _ _ (by simp; omega)]; exact h1, by rw [World.cell?_setCell_far _ _ _ _ (by simp; omega), World.cell?_setCell_far _ _ _ _ (by simp; omega)]; exact h2⟩
theorem OneAt.lt {X : Nat} {a b : Value} {w : World} (h : OneAt X a b w) : X < w.heap.size := World.block_lt_of_cell? w ⟨X, 0, none⟩ h.1
theorem small_bits {V : Nat} (h : V ≤ 9007199254740993) : bitsZ (V : Int) ≤ 400 := by
  by_cases h0 : V = 0
  · rw [h0]; decide
  · have h54 : (2 : Nat) ^ 54 = 18014398509481984 := by decide
    exact Nat.le_trans (bits_upto (N := 54) h0 (by omega)) (by decide)
/-- Three numbers that are read from their variables. -/
def Fin3 (w : World) (O Y M : Nat) (a b c d g h : Value) (x y z : Int) (wr : World) : Prop :=
  SixAt O Y M a b c d g h wr ∧ Below w.heap.size w wr ∧ IsNum wr (.agg #[a, b]) x ∧ IsNum wr (.agg #[c, d]) y ∧ IsNum wr (.agg #[g, h]) z
theorem Fin3.call {w w1 w2 : World} {O Y M : Nat} {a b c d g h : Value} {x y z : Int} (k : Fin3 w O Y M a b c d g h x y z w1) (hb : Below w1.heap.size w1 w2) : Fin3 w O Y M a b c d g h x y z w2 := by
  obtain ⟨h1, h2, h3, h4, h5⟩ := k
  exact ⟨SixAt.call h1 hb, below_then h2 hb, h3.below hb, h4.below hb, h5.below hb⟩
/-- Two numbers that are read from their variables. -/
def Fin2 (w : World) (O Y : Nat) (a b c d : Value) (x y : Int) (wr : World) : Prop :=
  (OneAt O a b wr ∧ OneAt Y c d wr) ∧ Below w.heap.size w wr ∧ IsNum wr (.agg #[a, b]) x ∧ IsNum wr (.agg #[c, d]) y
theorem Fin2.call {w w1 w2 : World} {O Y : Nat} {a b c d : Value} {x y : Int} (k : Fin2 w O Y a b c d x y w1) (hb : Below w1.heap.size w1 w2) : Fin2 w O Y a b c d x y w2 := by
  obtain ⟨⟨h1, h2⟩, h3, h4, h5⟩ := k
  exact ⟨⟨OneAt.call h1 hb, OneAt.call h2 hb⟩, below_then h3 hb, h4.below hb, h5.below hb⟩
theorem fin_new {w W : World} {O Y : Nat} {a b c d u t : Value} {x y z : Int} (h : Fin2 w O Y a b c d x y W) (hz : IsNum W (.agg #[u, t]) z) :
    Fin3 w O Y W.heap.size a b c d u t x y z (W.alloc (.cells #[u, t] 30)) := by
  have hb := below_one W (.cells #[u, t] 30)
  obtain ⟨⟨h1, h2⟩, h3, h4, h5⟩ := h
  exact ⟨⟨h1.call hb, h2.call hb, by simp [go_sem], by simp [go_sem]⟩, below_alloc' h3, h4.below hb, h5.below hb, hz.below hb⟩
theorem fin_set {w W0 W : World} {O Y M : Nat} {a b c d u t : Value} {x y z : Int} (h : Fin2 w O Y a b c d x y W) (k : Kept W0 M 30 W) (h0 : Below w.heap.size w W0) (hO : O < W0.heap.size) (hY : Y < W0.heap.size) (hz : IsNum W (.agg #[u, t]) z) :
    Fin3 w O Y M a b c d u t x y z ((W.setCell ⟨M, 0, none⟩ u).setCell ⟨M, 1, none⟩ t) := by
  obtain ⟨⟨h1, h2⟩, h3, h4, h5⟩ := h
  have hM := k.2.1
  have k2 := k.down h0
  refine ⟨⟨h1.set (by omega), h2.set (by omega), set_cells k u t⟩, (k2.store u t).1, num_far k u t h4, num_far k u t h5, k.num hz⟩
set_option maxHeartbeats 8000000 in
theorem rroot_fin (vp vq : Value) (p q : Nat) (w : World) (hp : IsNum w vp p) (hq : IsNum w vq q) (lp : bitsZ (p : Int) ≤ 3000) (lq : bitsZ (q : Int) ≤ 3000) (hp0 : p ≠ 0) (hq0 : q ≠ 0) :
    Calls Tryd.prog 9 #[vp, vq] w (RRootPost p q w) := by
  obtain ⟨pb, pp, pl, pc, rfl⟩ := hp.shape
  obtain ⟨qb, qp, ql, qc, rfl⟩ := hq.shape
  have hPQ := Lib.hid (PQ.start w hp hq)
  have HL := Lib.hid (fun w1 u v (hu : IsNum w1 u (p : Int)) (hv : IsNum w1 v (q : Int)) => rlong_any u v p q w1 hu hv lp lq)
  have t1 : ((pl : Int) == 0) = false := by rw [len_test (num_len hp)]; simpa using hp0
  have t2 : ((ql : Int) == 0) = false := by rw [len_test (num_len hq)]; simpa using hq0
  obtain ⟨u1, u2, u3⟩ := uF_facts p q
  have e53 : (2 : Nat) ^ 53 = 9007199254740992 := by decide
  have htop := uF_top (p := p) (q := q) (by omega) (by decide) (lt_bits lp)
  rw [e53] at u3 htop
  have HFit := Lib.hid (fun (m : Nat) (u : Int) w1 vm v1 v2 (hm : IsNum w1 vm (m : Int)) (h1 : IsNum w1 v1 (p : Int)) (h2 : IsNum w1 v2 (q : Int)) (lm : m ≤ 18446744073709551616) a b => fits_any vm v1 v2 m p q u w1 hm h1 h2 (big_pow lm) (le_bits (K := 3100) lp (by decide)) (le_bits (K := 3100) lq (by decide)) a b)
  have lp4 : bitsZ ((p * 4 : Nat) : Int) ≤ 3003 := bits_prod lp (show bitsZ ((4 : Nat) : Int) ≤ 3 by decide) (by decide)
  have HFi4 := Lib.hid (fun (m : Nat) (u : Int) w1 vm v1 v2 (hm : IsNum w1 vm (m : Int)) (h1 : IsNum w1 v1 ((p * 4 : Nat) : Int)) (h2 : IsNum w1 v2 (q : Int)) (lm : m ≤ 18446744073709551616) a b => fits_any vm v1 v2 m (p * 4) q u w1 hm h1 h2 (big_pow lm) (le_bits (K := 3100) lp4 (by decide)) (le_bits (K := 3100) lq (by decide)) a b)
  have HJu4 := Lib.hid (fun (m : Nat) (u : Int) w1 vm v1 v2 (hm : IsNum w1 vm (m : Int)) (h1 : IsNum w1 v1 ((p * 4 : Nat) : Int)) (h2 : IsNum w1 v2 (q : Int)) (lm : m ≤ 18446744073709551616) a b => just_any vm v1 v2 m (p * 4) q u w1 hm h1 h2 (big_pow lm) (le_bits (K := 3100) lp4 (by decide)) (le_bits (K := 3100) lq (by decide)) a b)
  have hps := (mid_of lp (by decide)).sized
  have h4s : Sized 20000 (4 : Int) := (sized8 (by decide) (by decide)).mono (by decide)
  have HM4 := Lib.hid (fun w1 u v (hu : IsNum w1 u (p : Int)) (hv : IsNum w1 v 4) => (num_mul u v (p : Int) 4 20000 w1 hu hv hps h4s (by decide)).mono (MadeNum.to (z' := ((p * 4 : Nat) : Int)) (by omega)))
  have HT := Lib.hid (fun w1 => (two_num 53 53 (Lib.hid (by decide)) w1 (by decide)).mono (MadeNum.to (z' := ((9007199254740992 : Nat) : Int)) (by decide)))
  have HNt := Lib.hid (fun (x : Int) (z : Nat) w1 (e : x = (z : Int)) (lz : z ≤ 18446744073709551615) => (nat_any x w1 (by omega) (by omega)).mono (MadeNum.to (z' := (z : Int)) e))
  have HU := Lib.hid u3
  have H0 := Lib.hid (And.intro hp0 hq0)
  have HTop := Lib.hid htop
  have HUp := Lib.hid (fun m => (show upFit p q m = if fitsB (2 * m + 1) (uF p q) (p * 4) q && (decide (m % 2 = 1) || !justB (2 * m + 1) (uF p q) (p * 4) q) then m + 1 else m from rfl))
  have HIs := Lib.hid (fun m (h1 : fitsB m (uF p q) p q = true) (h2 : fitsB (m + 1) (uF p q) p q = false) => (show IsFit p q m from ⟨h1, h2⟩))
  have HRp := Lib.hid (fun (w' : World) (m : Nat) (hf : IsFit p q m) (hb : Below w.heap.size w w') (R : Nat) (hR : R = nearW (upFit p q m) (uF p q)) => (show RRootPost p q w (.returned (.float .f64 R)) w' from ⟨.inr (.inr ⟨hp0, hq0, m, hf, ret_float hR⟩), hb⟩))
  generalize hU : uF p q = U at *
  clear hp hq lp lq lp4 hps h4s hp0 hq0 u3 htop hU e53
  go_enter Tryd.func9, Tryd.ntmps9
  have ⟨f1, f2, f3, f4⟩ := hPQ.out.1
  go_wp2_with fail
  refine (HL.out _ _ _ hPQ.out.2.2.2.1 hPQ.out.2.2.2.2).mono ?_; rintro r w1 ⟨rfl, hb⟩
  have hPQ := Lib.hid (hPQ.out.call hb)
  clear f1 f2 f3 f4 hb HL
  obtain ⟨f1, f2, f3, f4⟩ := hPQ.out.1
  obtain ⟨X, hX⟩ : ∃ X, w.heap.size = X := ⟨_, rfl⟩
  rw [hX] at hPQ f1 f2 f3 f4
  have HX := Lib.hid hX
  rw [hX]
  clear hX
  go_wp2_with fail
  go_loopw [5, 6] (fun lo hi wr => ∃ l h : Int, lo = .int .i64 l ∧ hi = .int .i64 h ∧ -1074 ≤ l ∧ l ≤ h ∧ h ≤ 1600 ∧ l ≤ U ∧ U ≤ h ∧ Hid (PQ w X (.bool pb) (.slice pp pl pc) (.bool qb) (.slice qp ql qc) p q wr)) (fun lo hi _ => (intOf hi - intOf lo).toNat)
  case atStart => exact ⟨-1074, 1600, rfl, rfl, by omega, by omega, by omega, u1, u2, hPQ⟩
  case round =>
    clear hPQ f1 f2 f3 f4
    obtain ⟨l, h, rfl, rfl, b1, b2, b3, b4, b5, hS⟩ := hrel
    by_cases hlt : l < h
    · obtain ⟨f1, f2, f3, f4⟩ := hS.out.1
      have d0 : 0 ≤ h - l := by omega
      have m1 : l ≤ l + (h - l) / 2 := by omega
      have m2 : l + (h - l) / 2 < h := by omega
      have hk := Four'.call hS.out.1 (Below.refl _ _).drew
      have hBw : Below wr.heap.size wr wr.drew := (Below.refl _ _).drew
      have hu := HU.out (l + (h - l) / 2) (by omega) (by omega)
      have HF1 := Lib.hid (fun w1 vm v1 v2 h1 h2 h3 => HFit.out 9007199254740992 (l + (h - l) / 2) w1 vm v1 v2 h1 h2 h3 (by decide) (by omega) (by omega))
      have HPn := Lib.hid hS.out.2.2.2
      rcases hbb : fitsB 9007199254740992 (l + (h - l) / 2) p q with _ | _
      · rw [hbb] at HF1
        have hu2 := hu.2 hbb
        have HS := Lib.hid hS.out
        clear hu hbb hS
        go_wp2_with fail
        go_region_held3 (fun w' => w'.cell? ⟨X, 0, none⟩ = some (.bool pb) ∧ w'.cell? ⟨X, 1, none⟩ = some (.slice pp pl pc) ∧ w'.cell? ⟨X + 1, 0, none⟩ = some (.bool qb) ∧ w'.cell? ⟨X + 1, 1, none⟩ = some (.slice qp ql qc))
          (with_reducible exact hk)
          (first
            | (go_at_call 33; refine (HT.out _).mono ?_; rintro r w3 ⟨t, rfl, ht, hb3⟩; have hk := Four'.call hk hb3; have hBw := hBw.trans (hb3.mono hBw.size))
            | (go_at_call 32; refine (HF1.out _ _ _ _ ht (HPn.out.1.below hBw) (HPn.out.2.below hBw)).mono ?_; rintro r w4 ⟨rfl, hb4⟩; have hk := Four'.call hk hb4; have hBw := hBw.trans (hb4.mono hBw.size)))
        all_goals
          have hS2 := Lib.hid (HS.out.call hBw)
          clear hk hBw ht f1 f2 f3 f4 HF1 HPn HS hb3 hb4
          go_wp2_with fail
          go_roundw
          case rel => exact ⟨l, l + (h - l) / 2, rfl, rfl, b1, m1, by omega, b4, hu2, hS2⟩
          case measure => simp [intOf]; omega
      · rw [hbb] at HF1
        have hu2 := hu.1 hbb
        have HS := Lib.hid hS.out
        clear hu hbb hS
        go_wp2_with fail
        go_region_held3 (fun w' => w'.cell? ⟨X, 0, none⟩ = some (.bool pb) ∧ w'.cell? ⟨X, 1, none⟩ = some (.slice pp pl pc) ∧ w'.cell? ⟨X + 1, 0, none⟩ = some (.bool qb) ∧ w'.cell? ⟨X + 1, 1, none⟩ = some (.slice qp ql qc))
          (with_reducible exact hk)
          (first
            | (go_at_call 33; refine (HT.out _).mono ?_; rintro r w3 ⟨t, rfl, ht, hb3⟩; have hk := Four'.call hk hb3; have hBw := hBw.trans (hb3.mono hBw.size))
            | (go_at_call 32; refine (HF1.out _ _ _ _ ht (HPn.out.1.below hBw) (HPn.out.2.below hBw)).mono ?_; rintro r w4 ⟨rfl, hb4⟩; have hk := Four'.call hk hb4; have hBw := hBw.trans (hb4.mono hBw.size)))
        all_goals
          have hS2 := Lib.hid (HS.out.call hBw)
          clear hk hBw ht f1 f2 f3 f4 HF1 HPn HS hb3 hb4
          go_wp2_with fail
          go_roundw
          case rel => exact ⟨l + (h - l) / 2 + 1, h, rfl, rfl, by omega, by omega, b3, hu2, b5, hS2⟩
          case measure => simp [intOf]; omega
    · obtain rfl : h = l := by omega
      obtain rfl : U = h := by omega
      clear b2 b4 b5 HU hlt u1 u2 HT
      have hz0 := fitsB_zero U p q
      have HZ := Lib.hid hz0
      have hS := Lib.hid hS.out
      clear hz0
      go_wp2_with fail
      go_loopw [8, 9] (fun s8 s9 wr => ∃ m t : Nat, s8 = .int .u64 m ∧ s9 = .int .u64 t ∧ m < t ∧ t ≤ 9007199254740992 ∧ Hid (fitsB m U p q = true) ∧ Hid (fitsB t U p q = false) ∧ Hid (PQ w X (.bool pb) (.slice pp pl pc) (.bool qb) (.slice qp ql qc) p q wr)) (fun s8 s9 _ => (intOf s9 - intOf s8).toNat)
      case atStart => exact ⟨0, 9007199254740992, rfl, rfl, by omega, by omega, HZ, HTop, hS⟩
      case round =>
        clear hS HZ HTop
        obtain ⟨m, t, rfl, rfl, c1, c2, c3, c4, hS⟩ := hrel
        by_cases hlt : 1 < (t : Int) - (m : Int)
        · obtain ⟨f1, f2, f3, f4⟩ := hS.out.1
          obtain ⟨M, hM⟩ : ∃ M : Nat, (m : Int) + ((t : Int) - (m : Int)) / 2 = (M : Int) := ⟨m + (t - m) / 2, by omega⟩
          have m1 : m < M := by omega
          have m2 : M < t := by omega
          have d0 : 0 ≤ (t : Int) - (m : Int) := by omega
          have hk := Four'.call hS.out.1 (Below.refl _ _).drew
          have hBw : Below wr.heap.size wr wr.drew := (Below.refl _ _).drew
          have HN1 := Lib.hid (fun w1 => HNt.out ((m : Int) + ((t : Int) - (m : Int)) / 2) M w1 hM (by omega))
          have HF1 := Lib.hid (fun w1 vm v1 v2 h1 h2 h3 => HFit.out M U w1 vm v1 v2 h1 h2 h3 (by omega) (by omega) (by omega))
          have HPn := Lib.hid hS.out.2.2.2
          have HS := Lib.hid hS.out
          have HMm := Lib.hid hM
          clear hM
          rcases hbb : fitsB M U p q with _ | _
          · rw [hbb] at HF1
            have HBb := Lib.hid hbb
            clear hS hbb
            go_wp2_with fail
            go_region_held3 (fun w' => w'.cell? ⟨X, 0, none⟩ = some (.bool pb) ∧ w'.cell? ⟨X, 1, none⟩ = some (.slice pp pl pc) ∧ w'.cell? ⟨X + 1, 0, none⟩ = some (.bool qb) ∧ w'.cell? ⟨X + 1, 1, none⟩ = some (.slice qp ql qc))
              (with_reducible exact hk)
              (first
                | (go_at_call 34; refine (HN1.out _).mono ?_; rintro r w3 ⟨t1, rfl, ht, hb3⟩; have hk := Four'.call hk hb3; have hBw := hBw.trans (hb3.mono hBw.size))
                | (go_at_call 32; refine (HF1.out _ _ _ _ ht (HPn.out.1.below hBw) (HPn.out.2.below hBw)).mono ?_; rintro r w4 ⟨rfl, hb4⟩; have hk := Four'.call hk hb4; have hBw := hBw.trans (hb4.mono hBw.size)))
            all_goals
              have hS2 := Lib.hid (HS.out.call hBw)
              clear hk hBw ht f1 f2 f3 f4 HF1 HPn HS hb3 hb4 HN1
              go_wp2_with fail
              go_roundw
              case rel => exact ⟨m, M, rfl, by rw [HMm.out], m1, by omega, c3, HBb, hS2⟩
              case measure => simp [intOf]; omega
          · rw [hbb] at HF1
            have HBb := Lib.hid hbb
            clear hS hbb
            go_wp2_with fail
            go_region_held3 (fun w' => w'.cell? ⟨X, 0, none⟩ = some (.bool pb) ∧ w'.cell? ⟨X, 1, none⟩ = some (.slice pp pl pc) ∧ w'.cell? ⟨X + 1, 0, none⟩ = some (.bool qb) ∧ w'.cell? ⟨X + 1, 1, none⟩ = some (.slice qp ql qc))
              (with_reducible exact hk)
              (first
                | (go_at_call 34; refine (HN1.out _).mono ?_; rintro r w3 ⟨t1, rfl, ht, hb3⟩; have hk := Four'.call hk hb3; have hBw := hBw.trans (hb3.mono hBw.size))
                | (go_at_call 32; refine (HF1.out _ _ _ _ ht (HPn.out.1.below hBw) (HPn.out.2.below hBw)).mono ?_; rintro r w4 ⟨rfl, hb4⟩; have hk := Four'.call hk hb4; have hBw := hBw.trans (hb4.mono hBw.size)))
            all_goals
              have hS2 := Lib.hid (HS.out.call hBw)
              clear hk hBw ht f1 f2 f3 f4 HF1 HPn HS hb3 hb4 HN1
              go_wp2_with fail
              go_roundw
              case rel => exact ⟨M, t, by rw [HMm.out], rfl, m2, c2, HBb, c4, hS2⟩
              case measure => simp [intOf]; omega
        · obtain rfl : t = m + 1 := by omega
          have hf := HIs.out m c3.out c4.out
          have HR := Lib.hid (fun w' (hb : Below w.heap.size w w') R hR => HRp.out w' m hf hb R hR)
          have HV := Lib.hid (HUp.out m)
          have b0 : (m : Int) ≤ 9007199254740992 := by omega
          have HOd := Lib.hid (fun w1 => HNt.out (2 * (m : Int) + 1) (2 * m + 1) w1 (by omega) (by omega))
          have HMb := Lib.hid (show m ≤ 9007199254740992 by omega)
          obtain ⟨f1, f2, f3, f4⟩ := hS.out.1
          clear c3 c4 hf HIs HRp HUp HFit c1 c2 hlt
          go_wp2_with fail
          refine (HOd.out _).mono ?_; rintro r w3 ⟨od, rfl, hod, hb3⟩
          obtain ⟨ob, op, ol, oc, rfl⟩ := hod.shape
          have hb4 := below_one w3 (.cells #[.bool ob, .slice op ol oc] 30)
          have hb34 := hb3.trans (hb4.mono hb3.size)
          have hS4 := Lib.hid (hS.out.call hb34)
          have hFin : Fin2 w w3.heap.size (X + 1) (.bool ob) (.slice op ol oc) (.bool qb) (.slice qp ql qc) ((2 * m + 1 : Nat) : Int) q (w3.alloc (.cells #[.bool ob, .slice op ol oc] 30)) :=
            ⟨⟨⟨by simp [go_sem], by simp [go_sem]⟩, hS4.out.1.2.2⟩, by have := hS4.out.2.1.1; rw [HX.out] at *; exact this, hod.below hb4, hS4.out.2.2.2.2⟩
          have HFin := Lib.hid hFin
          clear f1 f2 f3 f4 hod hb3 hb4 hb34 hFin HOd hS
          have hlt : w3.heap.size < (w3.alloc (.cells #[.bool ob, .slice op ol oc] 30)).heap.size := by simp
          go_upto_region 21 with fail
          generalize w3.alloc (.cells #[.bool ob, .slice op ol oc] 30) = W at *
          generalize w3.heap.size = O at *
          have HN4 := Lib.hid (fun w1 => HNt.out 4 4 w1 (by decide) (by decide))
          have hX1 : X + 1 < W.heap.size := OneAt.lt hS4.out.1.2.2
          have hX0 : X < W.heap.size := by omega
          go_cut [12] (fun s12 wx => ∃ M : Nat, s12 = .pointer (some ⟨M, 0, none⟩) ∧ ∃ g h, Hid (Fin3 w O (X + 1) M (.bool ob) (.slice op ol oc) (.bool qb) (.slice qp ql qc) g h ((2 * m + 1 : Nat) : Int) q ((p * 4 : Nat) : Int) wx))
          case first =>
            have hk : OneAt X (.bool pb) (.slice pp pl pc) W := ⟨hS4.out.1.1, hS4.out.1.2.1⟩
            have hBw : Below W.heap.size W W := Below.refl _ _
            go_region_held3 (fun w' => w'.cell? ⟨X, 0, none⟩ = some (.bool pb) ∧ w'.cell? ⟨X, 1, none⟩ = some (.slice pp pl pc))
              (first | (with_reducible assumption) | (repeat' (first | (with_reducible assumption) | (with_reducible apply OneAt.drew) | (with_reducible apply OneAt.set) | (with_reducible apply OneAt.alloc) | omega)))
              (first
                | (go_at_call 34; refine (HN4.out _).mono ?_; rintro r w4 ⟨t, rfl, ht, hb1⟩; replace hb1 := from_drew hb1; have hk := (by first | exact OneAt.call hk hb1 | exact OneAt.call (OneAt.alloc hk) hb1); (first
                    | (have kA : Kept W W.heap.size 30 w4 := (kept_new (Below.refl _ _)).call hb1; obtain ⟨l1, l2, l3⟩ := kept_lt kA)
                    | skip); have hBw : Below W.heap.size W w4 := (by first | exact hb1 | exact below_then (below_alloc' (Below.refl _ _)) hb1); have hz1 : W.heap.size ≤ w4.heap.size := hBw.size)
                | (go_at_call 16; refine (HM4.out _ _ _ ?_ ?_).mono ?_; (first | exact hS4.out.2.2.2.1.below hBw | exact hS4.out.2.2.2.1.below (below_alloc' hBw)); (first | exact ht | exact ht.below (below_one _ _)); rintro r w5 ⟨s, rfl, hs, hb2⟩; obtain ⟨sb, sp, sl, sc, rfl⟩ := hs.shape; have hk := (by first | exact OneAt.call hk hb2 | exact OneAt.call (OneAt.alloc hk) hb2); (first
                    | (have kC : Kept W w4.heap.size 30 w5 := (kept_new hBw).call hb2; obtain ⟨⟨x1, hx1⟩, ⟨y1, hy1⟩, hf1, hf2⟩ := kC.cells; obtain ⟨g1C, g2C, g3C⟩ := kept_lt kC)
                    | (replace kA := kA.call hb2; obtain ⟨⟨x1, hx1⟩, ⟨y1, hy1⟩, hf1, hf2⟩ := kA.cells; obtain ⟨g1A, g2A, g3A⟩ := kept_lt kA)
                    | skip); have hBw : Below W.heap.size W w5 := (by first | exact below_then hBw hb2 | exact below_then (below_alloc' hBw) hb2); have hz2 : W.heap.size ≤ w5.heap.size := hBw.size))
            all_goals
              have hF5 := HFin.out.call hBw
              have hB0 : Below w.heap.size w W := HFin.out.2.1
              clear HM4 HN4 HNt HFi4 HJu4
              go_wp2_with fail
              go_meet
              first
                | with_reducible exact ⟨_, rfl, _, _, Lib.hid (fin_new hF5 hs)⟩
                | with_reducible exact ⟨_, rfl, _, _, Lib.hid (fin_set hF5 kA hB0 hlt hX1 hs)⟩
                | with_reducible exact ⟨_, rfl, _, _, Lib.hid (fin_set hF5 kC hB0 hlt hX1 hs)⟩
          case rest =>
            obtain ⟨M, rfl, g, h, hfin⟩ := hcut
            obtain ⟨gb, gp, gl, gc, e⟩ := hfin.out.2.2.2.2.shape
            simp only [Value.agg.injEq, Array.mk.injEq, List.cons.injEq, and_true] at e
            obtain ⟨rfl, rfl⟩ := e
            have HF1 := Lib.hid (fun w1 vm v1 v2 h1 h2 h3 => HFi4.out (2 * m + 1) U w1 vm v1 v2 h1 h2 h3 (by have := HMb.out; omega) (by omega) (by omega))
            have HJ1 := Lib.hid (fun w1 vm v1 v2 h1 h2 h3 => HJu4.out (2 * m + 1) U w1 vm v1 v2 h1 h2 h3 (by have := HMb.out; omega) (by omega) (by omega))
            obtain ⟨⟨e1, e2⟩, ⟨e3, e4⟩, e5, e6⟩ := hfin.out.1
            clear HM4 HN4 HFin hS4 HFi4 HJu4 hlt hX0 hX1
            have HNv := Lib.hid (fun w1 => HNt.out (m : Int) m w1 rfl (by have := HMb.out; omega))
            have HNw := Lib.hid (fun w1 => HNt.out ((m : Int) + 1) (m + 1) w1 (by omega) (by have := HMb.out; omega))
            have HJn := Lib.hid (fun (V : Nat) (hV : V ≤ 9007199254740993) w1 v (hv : IsNum w1 v (V : Int)) => rjoin_any false v V U w1 hv (small_bits hV) (by omega) (by omega))
            simp only [sign_pos] at HJn
            have HRm := Lib.hid (fun w' (hb : Below w.heap.size w w') (hV : upFit p q m = m) => HR.out w' hb (nearW m U) (by rw [hV]))
            have HRn := Lib.hid (fun w' (hb : Below w.heap.size w w') (hV : upFit p q m = m + 1) => HR.out w' hb (nearW (m + 1) U) (by rw [hV]))
            have HFa := Lib.hid (HF1.out _ _ _ _ hfin.out.2.2.1 hfin.out.2.2.2.2 hfin.out.2.2.2.1)
            clear HF1 HR
            rcases hb1 : fitsB (2 * m + 1) U (p * 4) q with _ | _
            · have HV2 := Lib.hid (show upFit p q m = m by rw [HV.out, hb1]; rfl)
              rw [hb1] at HFa
              clear hb1 HV HRn HNw HJ1
              go_wp2_with fail
              refine (HFa.out).mono ?_; rintro r w6 ⟨rfl, hb6⟩
              have HE := Lib.hid (below_then hfin.out.2.1 hb6)
              clear hb6 hfin HFa
              go_wp2_with fail
              refine (HNv.out _).mono ?_; rintro r w7 ⟨v7, rfl, h7, hb7⟩
              have HE7 := Lib.hid (below_then HE.out hb7)
              have HJ7 := Lib.hid (HJn.out m (by have := HMb.out; omega) w7 v7 h7)
              obtain ⟨b7, p7, l7, c7, rfl⟩ := h7.shape
              clear h7 hb7 HE HJn HNv
              go_wp2_with fail
              refine (HJ7.out).mono ?_; rintro r w8 ⟨rfl, hb8⟩
              have HX8 := Lib.hid (HRm.out w8 (below_then HE7.out hb8) HV2.out)
              clear hb8 HRm
              go_wp2_with fail
              go_ret
              exact HX8.out
            · rw [hb1] at HFa
              by_cases hodd : m % 2 = 1
              · have HV2 := Lib.hid (show upFit p q m = m + 1 by rw [HV.out, hb1, hodd]; rfl)
                have ho : ((m : Int) % 2 == 1) = true := by simp; omega
                clear hb1 HV HRm HNv HJ1 hodd
                go_wp2_with fail
                refine (HFa.out).mono ?_; rintro r w6 ⟨rfl, hb6⟩
                have HE := Lib.hid (below_then hfin.out.2.1 hb6)
                clear hb6 hfin HFa
                go_wp2_with fail
                refine (HNw.out _).mono ?_; rintro r w7 ⟨v7, rfl, h7, hb7⟩
                have HE7 := Lib.hid (below_then HE.out hb7)
                have HJ7 := Lib.hid (HJn.out (m + 1) (by have := HMb.out; omega) w7 v7 h7)
                obtain ⟨b7, p7, l7, c7, rfl⟩ := h7.shape
                clear h7 hb7 HE HJn HNw
                go_wp2_with fail
                refine (HJ7.out).mono ?_; rintro r w8 ⟨rfl, hb8⟩
                have HX8 := Lib.hid (HRn.out w8 (below_then HE7.out hb8) HV2.out)
                clear hb8 HRn
                go_wp2_with fail
                go_ret
                exact HX8.out
              · have ho : ((m : Int) % 2 == 1) = false := by simp; omega
                have hod : decide (m % 2 = 1) = false := by simpa using hodd
                rcases hb2 : justB (2 * m + 1) U (p * 4) q with _ | _
                · have HV2 := Lib.hid (show upFit p q m = m + 1 by rw [HV.out, hb1, hod, hb2]; rfl)
                  rw [hb2] at HJ1
                  clear hb1 hb2 HV HRm HNv hodd hod
                  go_wp2_with fail
                  refine (HFa.out).mono ?_; rintro r w6 ⟨rfl, hb6⟩
                  have hfin6 := Lib.hid (hfin.out.call hb6)
                  have HJ2 := Lib.hid (HJ1.out _ _ _ _ hfin6.out.2.2.1 hfin6.out.2.2.2.2 hfin6.out.2.2.2.1)
                  clear e1 e2 e3 e4 e5 e6
                  obtain ⟨⟨e1, e2⟩, ⟨e3, e4⟩, e5, e6⟩ := hfin6.out.1
                  clear hb6 hfin HFa HJ1
                  go_wp2_with fail
                  refine (HJ2.out).mono ?_; rintro r w9 ⟨rfl, hb9⟩
                  have HE := Lib.hid (below_then hfin6.out.2.1 hb9)
                  clear hb9 hfin6 HJ2
                  go_wp2_with fail
                  refine (HNw.out _).mono ?_; rintro r w7 ⟨v7, rfl, h7, hb7⟩
                  have HE7 := Lib.hid (below_then HE.out hb7)
                  have HJ7 := Lib.hid (HJn.out (m + 1) (by have := HMb.out; omega) w7 v7 h7)
                  obtain ⟨b7, p7, l7, c7, rfl⟩ := h7.shape
                  clear h7 hb7 HE HJn HNw
                  go_wp2_with fail
                  refine (HJ7.out).mono ?_; rintro r w8 ⟨rfl, hb8⟩
                  have HX8 := Lib.hid (HRn.out w8 (below_then HE7.out hb8) HV2.out)
                  clear hb8 HRn
                  go_wp2_with fail
                  go_ret
                  exact HX8.out
                · have HV2 := Lib.hid (show upFit p q m = m by rw [HV.out, hb1, hod, hb2]; rfl)
                  rw [hb2] at HJ1
                  clear hb1 hb2 HV HRn HNw hodd hod
                  go_wp2_with fail
                  refine (HFa.out).mono ?_; rintro r w6 ⟨rfl, hb6⟩
                  have hfin6 := Lib.hid (hfin.out.call hb6)
                  have HJ2 := Lib.hid (HJ1.out _ _ _ _ hfin6.out.2.2.1 hfin6.out.2.2.2.2 hfin6.out.2.2.2.1)
                  clear e1 e2 e3 e4 e5 e6
                  obtain ⟨⟨e1, e2⟩, ⟨e3, e4⟩, e5, e6⟩ := hfin6.out.1
                  clear hb6 hfin HFa HJ1
                  go_wp2_with fail
                  refine (HJ2.out).mono ?_; rintro r w9 ⟨rfl, hb9⟩
                  have HE := Lib.hid (below_then hfin6.out.2.1 hb9)
                  clear hb9 hfin6 HJ2
                  go_wp2_with fail
                  refine (HNv.out _).mono ?_; rintro r w7 ⟨v7, rfl, h7, hb7⟩
                  have HE7 := Lib.hid (below_then HE.out hb7)
                  have HJ7 := Lib.hid (HJn.out (m) (by have := HMb.out; omega) w7 v7 h7)
                  obtain ⟨b7, p7, l7, c7, rfl⟩ := h7.shape
                  clear h7 hb7 HE HJn HNv
                  go_wp2_with fail
                  refine (HJ7.out).mono ?_; rintro r w8 ⟨rfl, hb8⟩
                  have HX8 := Lib.hid (HRm.out w8 (below_then HE7.out hb8) HV2.out)
                  clear hb8 HRm
                  go_wp2_with fail
                  go_ret
                  exact HX8.out
set_option maxRecDepth 100000
open Go.RowKit
set_option linter.unusedVariables false
/-- What a deviation of the reference is. -/
def RDevPost (n s : Int) (S : Nat) (w : World) (e : Ending) (w' : World) : Prop :=
  (((n < 1 ∨ 1000 < bitsZ (S : Int) ∨ n * S < s * s) ∧ ∃ X : Nat, isNaNB X = true ∧ W64 X ∧ e = .returned (.float .f64 X)) ∨ (1 ≤ n ∧ bitsZ (S : Int) ≤ 1000 ∧ ∃ D : Nat, (D : Int) = n * S - s * s ∧ ∃ w1, RRootPost D (n.natAbs * n.natAbs) w1 e w')) ∧ Below w.heap.size w w'
theorem num_neg {w : World} {b : Bool} {s : Value} {z : Int} (h : IsNum w (.agg #[.bool b, s]) z) : b = decide (z < 0) := by
  obtain ⟨neg, s', ds, e, h1, h2, h3, h4, h5, h6⟩ := h
  simp only [Value.agg.injEq, Array.mk.injEq, List.cons.injEq, and_true, Value.bool.injEq] at e
  obtain ⟨rfl, rfl⟩ := e
  have h0 := (val_range h3).1
  cases b
  · rw [h6, eq_comm, decide_eq_false_iff_not]
    have e : signed false (val ds) = val ds := rfl
    rw [e]; omega
  · have hne := h5 rfl
    have hz := h4.zero h3
    have : val ds ≠ 0 := fun e => hne (hz.1 e)
    rw [h6, eq_comm, decide_eq_true_eq]
    have e : signed true (val ds) = -val ds := rfl
    rw [e]; omega
theorem abs_cast {S K : Nat} (h : S ≤ 2 ^ K) : -(2 : Int) ^ K ≤ (S : Int) ∧ (S : Int) ≤ 2 ^ K := by
  rw [two_cast]; omega
theorem sized_prod {x y : Int} {M N : Nat} (hx : -(2 : Int) ^ M ≤ x ∧ x ≤ 2 ^ M) (hy : -(2 : Int) ^ N ≤ y ∧ y ≤ 2 ^ N) (h : M + N ≤ 15000 := by decide) : Sized 20000 (x * y) := by
  have h1 := sized_two h
  have h2 : x.natAbs ≤ 2 ^ M := by rw [two_cast] at hx; omega
  have h3 : y.natAbs ≤ 2 ^ N := by rw [two_cast] at hy; omega
  have h4 := Nat.mul_le_mul h2 h3
  rw [← Int.natAbs_mul, ← Nat.pow_add] at h4
  rw [two_cast] at h1
  obtain ⟨a, b⟩ := h1
  exact ⟨by omega, by omega⟩
theorem dev_new {w W0 W : World} {u t : Value} {z : Int} (h0 : Below w.heap.size w W0) (h : Below W0.heap.size W0 W) (hz : IsNum W (.agg #[u, t]) z) :
    OneAt W.heap.size u t (W.alloc (.cells #[u, t] 30)) ∧ Below w.heap.size w (W.alloc (.cells #[u, t] 30)) ∧ IsNum (W.alloc (.cells #[u, t] 30)) (.agg #[u, t]) z :=
  ⟨⟨by simp [go_sem], by simp [go_sem]⟩, below_alloc' (below_then h0 h), hz.below (below_one _ _)⟩
theorem dev_set {w W0 W : World} {M : Nat} {u t : Value} {z : Int} (h0 : Below w.heap.size w W0) (h : Below W0.heap.size W0 W) (k : Kept W0 M 30 W) (hz : IsNum W (.agg #[u, t]) z) :
    OneAt M u t ((W.setCell ⟨M, 0, none⟩ u).setCell ⟨M, 1, none⟩ t) ∧ Below w.heap.size w ((W.setCell ⟨M, 0, none⟩ u).setCell ⟨M, 1, none⟩ t) ∧ IsNum ((W.setCell ⟨M, 0, none⟩ u).setCell ⟨M, 1, none⟩ t) (.agg #[u, t]) z :=
  ⟨set_cells k u t, ((k.down h0).store u t).1, k.num hz⟩
theorem drew_of {X : Nat} {a b : Value} {w : World} (h : OneAt X a b w) : Below w.heap.size w w.drew := (Below.refl _ _).drew
theorem root_is_float {p q : Nat} {w : World} {e : Ending} {w' : World} (h : RRootPost p q w e w') : ∃ R, e = .returned (.float .f64 R) := by
  rcases h.1 with ⟨-, -, X, -, -, h⟩ | ⟨-, -, h⟩ | ⟨-, -, m, -, h⟩ <;> exact ⟨_, h⟩
theorem rroot_any (vp vq : Value) (p q : Nat) (w : World) (hp : IsNum w vp p) (hq : IsNum w vq q) (lp : bitsZ (p : Int) ≤ 3000) (lq : bitsZ (q : Int) ≤ 3000) :
    Calls Tryd.prog 9 #[vp, vq] w (RRootPost p q w) := by
  by_cases h0 : p = 0 ∨ q = 0
  · exact rroot_nil vp vq p q w hp hq lp lq h0
  · exact rroot_fin vp vq p q w hp hq lp lq (fun e => h0 (.inl e)) (fun e => h0 (.inr e))
set_option maxHeartbeats 8000000 in
theorem rdev_any (n s : Int) (v : Value) (a : List Int) (S : Nat) (w : World) (n1 : -9223372036854775808 ≤ n) (n2 : n ≤ 9223372036854775807) (s1 : -9223372036854775808 ≤ s) (s2 : s ≤ 9223372036854775807) (hv : WList w v a) (la : a.length ≤ 100) (hS : wv a = (S : Int)) :
    Calls Tryd.prog 14 #[.int .i64 n, .int .i64 s, v] w (RDevPost n s S w) := by
  have HNum := Lib.hid (num_words v a w hv (by omega))
  rw [hS] at HNum
  have HNo := Lib.hid (fun w => rnone_any w)
  obtain ⟨c1, d1, rfl⟩ := hv.shape
  have hbS : bitsZ (S : Int) ≤ 3200 := by
    by_cases h : S = 0
    · subst h; decide
    · have := bits_words hv.2.1 (by omega)
      rw [hS] at this; omega
  clear hv hS la
  by_cases hn : n < 1
  · have HX := Lib.hid (fun (X : Nat) (x1 : isNaNB X = true) (x2 : W64 X) w' (hb : Below w.heap.size w w') => (show RDevPost n s S w (.returned (.float .f64 X)) w' from ⟨.inl ⟨.inl hn, X, x1, x2, rfl⟩, hb⟩))
    have q1 : decide (n < 1) = true := by simpa using hn
    clear hbS
    go_enter Tryd.func14, Tryd.ntmps14
    go_wp2_with fail
    refine (HNum.out).mono ?_; rintro r w1 ⟨y, rfl, hy, hb⟩
    obtain ⟨sb, sp, sl, sc, rfl⟩ := hy.shape
    have HE := Lib.hid (below_alloc' (o := .cells #[.bool sb, .slice sp sl sc] 30) hb)
    clear hy hb HNum
    go_wp2_with fail
    go_quiet (fail)
    go_wp2_with fail
    have hd := below_drewN (Below.refl (w1.alloc (.cells #[.bool sb, .slice sp sl sc] 30)).heap.size (w1.alloc (.cells #[.bool sb, .slice sp sl sc] 30))) nq
    have HE2 := Lib.hid (below_then HE.out hd)
    clear hd
    refine (HNo.out _).mono ?_; rintro r w2 ⟨⟨X, x1, x2, rfl⟩, hb2⟩
    have HX2 := Lib.hid (HX.out X x1 x2 w2 (below_then HE2.out hb2))
    clear x1 x2 hb2
    go_wp2_with fail
    go_ret
    exact HX2.out
  · have q1 : decide (n < 1) = false := by simpa using hn
    obtain ⟨K, hK⟩ : ∃ K : Nat, K = 1000 := ⟨_, rfl⟩
    have HT := Lib.hid (fun w1 => two_num 1000 K (Lib.hid (by omega)) w1 (by omega))
    have h2s := sized_two (N := K) (by omega)
    have hSs : Sized 20000 (S : Int) := sized_nat (le_bits (K := 3200) hbS (Nat.le_refl _)) (by decide)
    have HC := Lib.hid (fun w1 u v (hu : IsNum w1 u (S : Int)) (hv : IsNum w1 v (2 ^ K)) => num_cmp u v (S : Int) (2 ^ K) 20000 w1 hu hv hSs h2s (by decide))
    by_cases hb : 1000 < bitsZ (S : Int)
    · have hge : cmpI (S : Int) (2 ^ K) ≥ 0 := cmpI_ge.2 (by
        rw [two_cast]
        refine Int.ofNat_le.2 ?_
        have h0 : S ≠ 0 := fun e => by subst e; have : bitsZ ((0 : Nat) : Int) = 0 := rfl; omega
        exact Nat.le_trans (Nat.pow_le_pow_right (by decide) (by omega)) (bits_low h0))
      have HX := Lib.hid (fun (X : Nat) (x1 : isNaNB X = true) (x2 : W64 X) w' (hbb : Below w.heap.size w w') => (show RDevPost n s S w (.returned (.float .f64 X)) w' from ⟨.inl ⟨.inr (.inl hb), X, x1, x2, rfl⟩, hbb⟩))
      generalize cmpI (S : Int) (2 ^ K) = cm at *
      have q2 : decide (0 ≤ cm) = true := by simpa using hge
      clear hbS hSs h2s hK hb hn hge
      go_enter Tryd.func14, Tryd.ntmps14
      go_wp2_with fail
      refine (HNum.out).mono ?_; rintro r w1 ⟨y, rfl, hy, hb⟩
      obtain ⟨sb, sp, sl, sc, rfl⟩ := hy.shape
      have HE := Lib.hid (below_alloc' (o := .cells #[.bool sb, .slice sp sl sc] 30) hb)
      have hy2 := Lib.hid (hy.below (below_one w1 (.cells #[.bool sb, .slice sp sl sc] 30)))
      have hk1 : OneAt w1.heap.size (.bool sb) (.slice sp sl sc) (w1.alloc (.cells #[.bool sb, .slice sp sl sc] 30)) := ⟨by simp [go_sem], by simp [go_sem]⟩
      have HK1 := Lib.hid hk1
      clear hy hb HNum hk1
      go_wp2_with fail
      generalize w1.alloc (.cells #[.bool sb, .slice sp sl sc] 30) = W at *
      generalize w1.heap.size = B at *
      have hk := OneAt.call HK1.out (Below.refl _ _).drew
      have hBw : Below W.heap.size W W.drew := (Below.refl _ _).drew
      go_region_held3 (fun w' => w'.cell? ⟨B, 0, none⟩ = some (.bool sb) ∧ w'.cell? ⟨B, 1, none⟩ = some (.slice sp sl sc))
        (with_reducible exact hk)
        (first
          | (go_at_call 33; refine (HT.out _).mono ?_; rintro r w3 ⟨t, rfl, ht, hb3⟩; have hk := OneAt.call hk hb3; have hBw := hBw.trans (hb3.mono hBw.size))
          | (go_at_call 43; refine (HC.out _ _ _ (hy2.out.below hBw) ht).mono ?_; rintro r w4 ⟨rfl, hb4⟩; have hk := OneAt.call hk hb4; have hBw := hBw.trans (hb4.mono hBw.size)))
      all_goals
        have HE2 := Lib.hid (below_then HE.out hBw)
        clear hk hBw HT HC hy2 HK1 HE ht hb3 hb4
        go_wp2_with fail
        refine (HNo.out _).mono ?_; rintro r w2 ⟨⟨X, x1, x2, rfl⟩, hb2⟩
        have HX2 := Lib.hid (HX.out X x1 x2 w2 (below_then HE2.out hb2))
        clear x1 x2 hb2
        go_wp2_with fail
        go_ret
        exact HX2.out
    · have hlt : (S : Int) < 2 ^ K := by
        rw [two_cast]
        exact Int.ofNat_lt.2 (lt_bits (by omega))
      rw [cmpI_lt hlt] at HC
      have HOn := Lib.hid (fun w1 => of_any n w1 n1 n2)
      have HOs := Lib.hid (fun w1 => of_any s w1 s1 s2)
      have hn8 : Sized 20000 n := (sized8 (by omega) (by omega)).mono (by decide)
      have hs8 : Sized 20000 s := (sized8 (by omega) (by omega)).mono (by decide)
      have hn8' : -(2 : Int) ^ 100 ≤ n ∧ n ≤ 2 ^ 100 := by omega
      have hs8' : -(2 : Int) ^ 100 ≤ s ∧ s ≤ 2 ^ 100 := by omega
      have hS15 : -(2 : Int) ^ 3200 ≤ (S : Int) ∧ (S : Int) ≤ 2 ^ 3200 := abs_cast (le_bits (K := 3200) hbS (Nat.le_refl _))
      have HM1 := Lib.hid (fun w1 u v (hu : IsNum w1 u n) (hv : IsNum w1 v (S : Int)) => num_mul u v n (S : Int) 20000 w1 hu hv hn8 hSs (by decide))
      have HM2 := Lib.hid (fun w1 u v (hu : IsNum w1 u s) (hv : IsNum w1 v s) => num_mul u v s s 20000 w1 hu hv hs8 hs8 (by decide))
      have HM3 := Lib.hid (fun w1 u v (hu : IsNum w1 u n) (hv : IsNum w1 v n) => (num_mul u v n n 20000 w1 hu hv hn8 hn8 (by decide)).mono (MadeNum.to (z' := ((n.natAbs * n.natAbs : Nat) : Int)) (by rw [Int.natCast_mul, sq_abs])))
      have hp1 : Sized 20000 (n * (S : Int)) := sized_prod hn8' hS15
      have hp2 : Sized 20000 (s * s) := sized_prod hs8' hs8'
      have HSb := Lib.hid (fun w1 u v (hu : IsNum w1 u (n * (S : Int))) (hv : IsNum w1 v (s * s)) => num_sub u v _ _ 20000 w1 hu hv hp1 hp2 (by decide))
      clear hSs h2s hK hn8 hs8 hlt hp1 hp2
      have Hb := Lib.hid hb
      have Hn := Lib.hid hn
      clear hb hn hbS
      go_enter Tryd.func14, Tryd.ntmps14
      go_wp2_with fail
      refine (HNum.out).mono ?_; rintro r w1 ⟨y, rfl, hy, hb⟩
      obtain ⟨sb, sp, sl, sc, rfl⟩ := hy.shape
      have HE := Lib.hid (below_alloc' (o := .cells #[.bool sb, .slice sp sl sc] 30) hb)
      have hy2 := Lib.hid (hy.below (below_one w1 (.cells #[.bool sb, .slice sp sl sc] 30)))
      have hk1 : OneAt w1.heap.size (.bool sb) (.slice sp sl sc) (w1.alloc (.cells #[.bool sb, .slice sp sl sc] 30)) := ⟨by simp [go_sem], by simp [go_sem]⟩
      have HK1 := Lib.hid hk1
      clear hy hb HNum hk1
      go_wp2_with fail
      generalize w1.alloc (.cells #[.bool sb, .slice sp sl sc] 30) = V at *
      generalize w1.heap.size = B at *
      have hk := OneAt.call HK1.out (Below.refl _ _).drew
      have hBv : Below V.heap.size V V.drew := (Below.refl _ _).drew
      go_region_held3 (fun w' => w'.cell? ⟨B, 0, none⟩ = some (.bool sb) ∧ w'.cell? ⟨B, 1, none⟩ = some (.slice sp sl sc))
        (with_reducible exact hk)
        (first
          | (go_at_call 33; refine (HT.out _).mono ?_; rintro r w3 ⟨t, rfl, ht, hb3⟩; have hk := OneAt.call hk hb3; have hBv := hBv.trans (hb3.mono hBv.size))
          | (go_at_call 43; refine (HC.out _ _ _ (hy2.out.below hBv) ht).mono ?_; rintro r w4 ⟨rfl, hb4⟩; have hk := OneAt.call hk hb4; have hBv := hBv.trans (hb4.mono hBv.size)))
      all_goals
        have HE2 := Lib.hid (below_then HE.out hBv)
        have HY4 := Lib.hid (hy2.out.below hBv)
        have HK4 := Lib.hid hk
        have hBl : B < w4.heap.size := OneAt.lt hk
        clear hk hBv HT HC hy2 HK1 HE ht hb3 hb4
        go_upto_region 5 with fail
        generalize w4 = W at *
        go_cut [8] (fun s8 wx => ∃ M : Nat, s8 = .pointer (some ⟨M, 0, none⟩) ∧ ∃ g h, Hid (OneAt M g h wx ∧ Below w.heap.size w wx ∧ IsNum wx (.agg #[g, h]) (n * (S : Int) - s * s)))
        case first =>
          have hk : OneAt B (.bool sb) (.slice sp sl sc) W := HK4.out
          have hBw : Below W.heap.size W W := Below.refl _ _
          have hSn := HY4.out
          go_region_held3 (fun w' => w'.cell? ⟨B, 0, none⟩ = some (.bool sb) ∧ w'.cell? ⟨B, 1, none⟩ = some (.slice sp sl sc))
            (first | (with_reducible assumption) | (repeat' (first | (with_reducible assumption) | (with_reducible apply OneAt.drew) | (with_reducible apply OneAt.set) | (with_reducible apply OneAt.alloc) | omega)))
            (first
          | (go_at_call_of 17 n; refine (HOn.out _).mono ?_; rintro r wa ⟨on, rfl, hon, hb_wa⟩; replace hb_wa := from_drew hb_wa; have hk := (by first | exact OneAt.call hk hb_wa | exact OneAt.call (OneAt.alloc hk) hb_wa); (first | (have kA : Kept W W.heap.size 30 wa := (kept_new hBw).call hb_wa; obtain ⟨⟨x1, hx1⟩, ⟨y1, hy1⟩, hf1, hf2⟩ := kA.cells; obtain ⟨g1, g2, g3⟩ := kept_lt kA) | (replace kA := kA.call hb_wa; obtain ⟨⟨x1, hx1⟩, ⟨y1, hy1⟩, hf1, hf2⟩ := kA.cells; obtain ⟨g1, g2, g3⟩ := kept_lt kA) | skip); have hBw : Below W.heap.size W wa := (by first | exact below_then hBw hb_wa | exact below_then (below_alloc' hBw) hb_wa); have hz_wa : W.heap.size ≤ wa.heap.size := hBw.size; (try replace hSn := (by first | exact hSn.below hb_wa | exact (hSn.below (below_one _ _)).below hb_wa)))
          | (go_at_call_of 16 sp; refine (HM1.out _ _ _ ?_ ?_).mono ?_; (first | exact hon | exact hon.below (below_one _ _)); (first | exact hSn | exact hSn.below (below_one _ _)); rintro r wb ⟨m1, rfl, hm1, hb_wb⟩; have hk := (by first | exact OneAt.call hk hb_wb | exact OneAt.call (OneAt.alloc hk) hb_wb); (first | (have kA : Kept W wa.heap.size 30 wb := (kept_new hBw).call hb_wb; obtain ⟨⟨x1, hx1⟩, ⟨y1, hy1⟩, hf1, hf2⟩ := kA.cells; obtain ⟨g1, g2, g3⟩ := kept_lt kA) | (replace kA := kA.call hb_wb; obtain ⟨⟨x1, hx1⟩, ⟨y1, hy1⟩, hf1, hf2⟩ := kA.cells; obtain ⟨g1, g2, g3⟩ := kept_lt kA) | skip); have hBw : Below W.heap.size W wb := (by first | exact below_then hBw hb_wb | exact below_then (below_alloc' hBw) hb_wb); have hz_wb : W.heap.size ≤ wb.heap.size := hBw.size; (try replace hSn := (by first | exact hSn.below hb_wb | exact (hSn.below (below_one _ _)).below hb_wb)); (try replace hon := (by first | exact hon.below hb_wb | exact (hon.below (below_one _ _)).below hb_wb)))
          | (first | (have tok := hos; go_at_call_of 17 s; refine (HOs.out _).mono ?_; rintro r wd ⟨ot, rfl, hot, hb_wd⟩; have hk := (by first | exact OneAt.call hk hb_wd | exact OneAt.call (OneAt.alloc hk) hb_wd); (first | (have kA : Kept W wc.heap.size 30 wd := (kept_new hBw).call hb_wd; obtain ⟨⟨x1, hx1⟩, ⟨y1, hy1⟩, hf1, hf2⟩ := kA.cells; obtain ⟨g1, g2, g3⟩ := kept_lt kA) | (replace kA := kA.call hb_wd; obtain ⟨⟨x1, hx1⟩, ⟨y1, hy1⟩, hf1, hf2⟩ := kA.cells; obtain ⟨g1, g2, g3⟩ := kept_lt kA) | skip); have hBw : Below W.heap.size W wd := (by first | exact below_then hBw hb_wd | exact below_then (below_alloc' hBw) hb_wd); have hz_wd : W.heap.size ≤ wd.heap.size := hBw.size; (try replace hSn := (by first | exact hSn.below hb_wd | exact (hSn.below (below_one _ _)).below hb_wd)); (try replace hon := (by first | exact hon.below hb_wd | exact (hon.below (below_one _ _)).below hb_wd)); (try replace hm1 := (by first | exact hm1.below hb_wd | exact (hm1.below (below_one _ _)).below hb_wd)); (try replace hos := (by first | exact hos.below hb_wd | exact (hos.below (below_one _ _)).below hb_wd))) | (go_at_call_of 17 s; refine (HOs.out _).mono ?_; rintro r wc ⟨os, rfl, hos, hb_wc⟩; have hk := (by first | exact OneAt.call hk hb_wc | exact OneAt.call (OneAt.alloc hk) hb_wc); (first | (have kA : Kept W wb.heap.size 30 wc := (kept_new hBw).call hb_wc; obtain ⟨⟨x1, hx1⟩, ⟨y1, hy1⟩, hf1, hf2⟩ := kA.cells; obtain ⟨g1, g2, g3⟩ := kept_lt kA) | (replace kA := kA.call hb_wc; obtain ⟨⟨x1, hx1⟩, ⟨y1, hy1⟩, hf1, hf2⟩ := kA.cells; obtain ⟨g1, g2, g3⟩ := kept_lt kA) | skip); have hBw : Below W.heap.size W wc := (by first | exact below_then hBw hb_wc | exact below_then (below_alloc' hBw) hb_wc); have hz_wc : W.heap.size ≤ wc.heap.size := hBw.size; (try replace hSn := (by first | exact hSn.below hb_wc | exact (hSn.below (below_one _ _)).below hb_wc)); (try replace hon := (by first | exact hon.below hb_wc | exact (hon.below (below_one _ _)).below hb_wc)); (try replace hm1 := (by first | exact hm1.below hb_wc | exact (hm1.below (below_one _ _)).below hb_wc))))
          | (go_at_call 16; refine (HM2.out _ _ _ ?_ ?_).mono ?_; (first | exact hos | exact hos.below (below_one _ _)); (first | exact hot | exact hot.below (below_one _ _)); rintro r we ⟨m2, rfl, hm2, hb_we⟩; have hk := (by first | exact OneAt.call hk hb_we | exact OneAt.call (OneAt.alloc hk) hb_we); (first | (have kA : Kept W wd.heap.size 30 we := (kept_new hBw).call hb_we; obtain ⟨⟨x1, hx1⟩, ⟨y1, hy1⟩, hf1, hf2⟩ := kA.cells; obtain ⟨g1, g2, g3⟩ := kept_lt kA) | (replace kA := kA.call hb_we; obtain ⟨⟨x1, hx1⟩, ⟨y1, hy1⟩, hf1, hf2⟩ := kA.cells; obtain ⟨g1, g2, g3⟩ := kept_lt kA) | skip); have hBw : Below W.heap.size W we := (by first | exact below_then hBw hb_we | exact below_then (below_alloc' hBw) hb_we); have hz_we : W.heap.size ≤ we.heap.size := hBw.size; (try replace hSn := (by first | exact hSn.below hb_we | exact (hSn.below (below_one _ _)).below hb_we)); (try replace hon := (by first | exact hon.below hb_we | exact (hon.below (below_one _ _)).below hb_we)); (try replace hm1 := (by first | exact hm1.below hb_we | exact (hm1.below (below_one _ _)).below hb_we)); (try replace hos := (by first | exact hos.below hb_we | exact (hos.below (below_one _ _)).below hb_we)); (try replace hot := (by first | exact hot.below hb_we | exact (hot.below (below_one _ _)).below hb_we)))
          | (go_at_call 44; refine (HSb.out _ _ _ ?_ ?_).mono ?_; (first | exact hm1 | exact hm1.below (below_one _ _)); (first | exact hm2 | exact hm2.below (below_one _ _)); rintro r wf ⟨df, rfl, hdf, hb_wf⟩; have hk := (by first | exact OneAt.call hk hb_wf | exact OneAt.call (OneAt.alloc hk) hb_wf); (first | (have kA : Kept W we.heap.size 30 wf := (kept_new hBw).call hb_wf; obtain ⟨⟨x1, hx1⟩, ⟨y1, hy1⟩, hf1, hf2⟩ := kA.cells; obtain ⟨g1, g2, g3⟩ := kept_lt kA) | (replace kA := kA.call hb_wf; obtain ⟨⟨x1, hx1⟩, ⟨y1, hy1⟩, hf1, hf2⟩ := kA.cells; obtain ⟨g1, g2, g3⟩ := kept_lt kA) | skip); have hBw : Below W.heap.size W wf := (by first | exact below_then hBw hb_wf | exact below_then (below_alloc' hBw) hb_wf); have hz_wf : W.heap.size ≤ wf.heap.size := hBw.size; (try replace hSn := (by first | exact hSn.below hb_wf | exact (hSn.below (below_one _ _)).below hb_wf)); (try replace hon := (by first | exact hon.below hb_wf | exact (hon.below (below_one _ _)).below hb_wf)); (try replace hm1 := (by first | exact hm1.below hb_wf | exact (hm1.below (below_one _ _)).below hb_wf)); (try replace hos := (by first | exact hos.below hb_wf | exact (hos.below (below_one _ _)).below hb_wf)); (try replace hot := (by first | exact hot.below hb_wf | exact (hot.below (below_one _ _)).below hb_wf)); (try replace hm2 := (by first | exact hm2.below hb_wf | exact (hm2.below (below_one _ _)).below hb_wf)); obtain ⟨db, dp, dl, dc, rfl⟩ := hdf.shape))
          all_goals
            have hBB := HE2.out
            clear HM1 HM2 HSb HOs
            go_wp2_with fail
            go_meet
            first
              | with_reducible exact ⟨_, rfl, _, _, Lib.hid (dev_new hBB hBw hdf)⟩
              | with_reducible exact ⟨_, rfl, _, _, Lib.hid (dev_set hBB hBw kA hdf)⟩
        case rest =>
          obtain ⟨M, rfl, g, h, hm⟩ := hcut
          obtain ⟨gb, gp, gl, gc, e⟩ := hm.out.2.2.shape
          simp only [Value.agg.injEq, Array.mk.injEq, List.cons.injEq, and_true] at e
          obtain ⟨rfl, rfl⟩ := e
          have hneg := num_neg hm.out.2.2
          clear HM1 HM2 HSb HOs HY4 HK4 HE2 hBl
          by_cases hlt : n * (S : Int) < s * s
          · have hb : gb = true := by rw [hneg, decide_eq_true_eq]; omega
            subst hb
            have HX := Lib.hid (fun (X : Nat) (x1 : isNaNB X = true) (x2 : W64 X) w' (hbb : Below w.heap.size w w') => (show RDevPost n s S w (.returned (.float .f64 X)) w' from ⟨.inl ⟨.inr (.inr hlt), X, x1, x2, rfl⟩, hbb⟩))
            obtain ⟨f1, f2⟩ := hm.out.1
            have HE := Lib.hid hm.out.2.1
            clear hlt hneg hm HOn HM3
            go_wp2_with fail
            refine (HNo.out _).mono ?_; rintro r w2 ⟨⟨X, x1, x2, rfl⟩, hb2⟩
            have HX2 := Lib.hid (HX.out X x1 x2 w2 (below_then HE.out hb2))
            clear x1 x2 hb2
            go_wp2_with fail
            go_ret
            exact HX2.out
          · have hb : gb = false := by rw [hneg, decide_eq_false_iff_not]; omega
            subst hb
            obtain ⟨D, hD⟩ := Int.eq_ofNat_of_zero_le (a := n * (S : Int) - s * s) (by omega)
            have hDle : D ≤ n.natAbs * S := by
              have h1 : 0 ≤ s * s := by rw [← sq_abs]; exact Int.mul_nonneg (by omega) (by omega)
              have h2 : ((n.natAbs * S : Nat) : Int) = n * (S : Int) := by rw [Int.natCast_mul]; congr 1; have := Hn.out; omega
              omega
            have hbD : bitsZ (D : Int) ≤ 3000 := Nat.le_trans (bits_mono hDle) (bits_prod (K := 3000) (bits64 n1 n2) (by have := Hb.out; omega : bitsZ (S : Int) ≤ 1000) (by decide))
            have hbN : bitsZ ((n.natAbs * n.natAbs : Nat) : Int) ≤ 3000 := bits_prod (K := 3000) (bits64 n1 n2) (bits64 n1 n2) (by decide)
            have HRt := Lib.hid (fun w1 u v (hu : IsNum w1 u (D : Int)) (hv : IsNum w1 v ((n.natAbs * n.natAbs : Nat) : Int)) => rroot_any u v D (n.natAbs * n.natAbs) w1 hu hv hbD hbN)
            have hmD := hm.out.2.2
            rw [hD] at hmD
            have HmD := Lib.hid hmD
            have HX := Lib.hid (fun (e : Ending) w1 w' (hr : RRootPost D (n.natAbs * n.natAbs) w1 e w') (hbb : Below w.heap.size w w') => (show RDevPost n s S w e w' from ⟨.inr ⟨by have := Hn.out; omega, by have := Hb.out; omega, D, hD.symm, w1, hr⟩, hbb⟩))
            have HE := Lib.hid hm.out.2.1
            have HK := Lib.hid hm.out.1
            obtain ⟨f1, f2⟩ := hm.out.1
            clear hlt hneg hm hD hDle hbD hbN hmD
            go_wp2_with fail
            go_upto_region 8 with fail
            have hk := OneAt.call HK.out (Below.refl _ _).drew
            have hBw := drew_of HK.out
            go_region_held3 (fun w' => w'.cell? ⟨M, 0, none⟩ = some (.bool false) ∧ w'.cell? ⟨M, 1, none⟩ = some (.slice gp gl gc))
              (with_reducible exact hk)
              (first
                | (go_at_call 17; first
                    | (have tok := ha; refine (HOn.out _).mono ?_; rintro r wb ⟨ob, rfl, hb', hbb⟩; replace ha := ha.below hbb; have hk := OneAt.call hk hbb; have hBw := hBw.trans (hbb.mono hBw.size))
                    | (refine (HOn.out _).mono ?_; rintro r wa ⟨oa, rfl, ha, hba⟩; have hk := OneAt.call hk hba; have hBw := hBw.trans (hba.mono hBw.size)))
                | (go_at_call 16; refine (HM3.out _ _ _ ha hb').mono ?_; rintro r wc ⟨mm, rfl, hmm, hbc⟩; have hk := OneAt.call hk hbc; have hBw := hBw.trans (hbc.mono hBw.size))
                | (go_at_call 9; refine (HRt.out _ _ _ (HmD.out.below hBw) hmm).mono ?_; rintro r wd hrp; obtain ⟨R, rfl⟩ := root_is_float hrp; have hk := OneAt.call hk hrp.2; have hBw := hBw.trans (hrp.2.mono hBw.size)))
            all_goals
              have HX2 := Lib.hid (HX.out _ _ _ hrp (below_then HE.out hBw))
              clear hk hBw hrp hmm ha hb'
              go_wp2_with fail
              go_ret
              exact HX2.out
end Go.Proofs.YtjfcnpanodkmnaaDoor
