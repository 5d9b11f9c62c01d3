/- Contracts that the law leans on, pruned and merged: Floq Roob. -/
import Derived.Test.YtigikgphipebiaaGreatDoorRi14
/- The nearest float to a quotient times a power of two: what Nearest of the reference returns. -/
namespace Go.Proofs.YtigikgphipebiaaGreatDoor
set_option maxRecDepth 100000
open Go.RowKit
set_option linter.unusedVariables false
/-- Is p 2^e less than q 2^k? -/
def ltQ (p q : Nat) (e k : Int) : Bool := if e ≤ k then decide (p < q * 2 ^ (k - e).toNat) else decide (p * 2 ^ (e - k).toNat < q)
theorem ltQ_mono {p q : Nat} {e k : Int} (h : ltQ p q e k = true) : ltQ p q e (k + 1) = true := by
  unfold ltQ at *
  by_cases h1 : e ≤ k
  · rw [if_pos h1] at h
    rw [if_pos (by omega), show (k + 1 - e).toNat = (k - e).toNat + 1 by omega, Nat.pow_succ, ← Nat.mul_assoc]
    simp only [decide_eq_true_eq] at h ⊢
    omega
  · rw [if_neg h1] at h
    simp only [decide_eq_true_eq] at h
    by_cases h2 : e ≤ k + 1
    · rw [if_pos h2, show (k + 1 - e).toNat = 0 by omega]
      rw [show (e - k).toNat = 1 by omega] at h
      simp only [decide_eq_true_eq]
      omega
    · rw [if_neg h2]
      rw [show (e - k).toNat = (e - (k + 1)).toNat + 1 by omega, Nat.pow_succ, ← Nat.mul_assoc] at h
      simp only [decide_eq_true_eq]
      omega
def leastFrom (p q : Nat) (e : Int) : Nat → Int → Int
  | 0, k => k
  | n + 1, k => if ltQ p q e (k + 53) then k else leastFrom p q e n (k + 1)
theorem ltQ_up {p q : Nat} {e k : Int} (h : ltQ p q e k = true) : ∀ j : Nat, ltQ p q e (k + j) = true
  | 0 => by simpa using h
  | j + 1 => by
    have := ltQ_mono (ltQ_up h j)
    rw [show k + ((j + 1 : Nat) : Int) = k + j + 1 by omega]; exact this
theorem least_facts (p q : Nat) (e : Int) : ∀ (n : Nat) (k : Int), k ≤ leastFrom p q e n k ∧ leastFrom p q e n k ≤ k + n ∧ ∀ mid : Int, k ≤ mid → mid < k + n → (ltQ p q e (mid + 53) = true → leastFrom p q e n k ≤ mid) ∧ (ltQ p q e (mid + 53) = false → mid + 1 ≤ leastFrom p q e n k)
  | 0, k => ⟨Int.le_refl _, by simp [leastFrom], fun mid h1 h2 => by omega⟩
  | n + 1, k => by
    unfold leastFrom
    cases h : ltQ p q e (k + 53) with
    | true =>
      rw [if_pos rfl]
      refine ⟨Int.le_refl _, by omega, fun mid h1 h2 => ⟨fun _ => h1, fun hf => ?_⟩⟩
      have := ltQ_up h (mid - k).toNat
      rw [show k + 53 + ((mid - k).toNat : Int) = mid + 53 by omega, hf] at this
      cases this
    | false =>
      rw [if_neg (by decide)]
      obtain ⟨a, b, c⟩ := least_facts p q e n (k + 1)
      refine ⟨by omega, by omega, fun mid h1 h2 => ?_⟩
      by_cases hm : mid = k
      · subst hm
        exact ⟨(fun ht => by rw [h] at ht; cases ht), (fun _ => by omega)⟩
      · exact c mid (by omega) (by omega)
/-- The unit. -/
def uQ (p q : Nat) (e : Int) : Int := leastFrom p q e 2098 (-1074)
theorem uQ_facts (p q : Nat) (e : Int) : -1074 ≤ uQ p q e ∧ uQ p q e ≤ 1024 ∧ ∀ mid : Int, -1074 ≤ mid → mid + 1 ≤ 1024 → (ltQ p q e (mid + 53) = true → uQ p q e ≤ mid) ∧ (ltQ p q e (mid + 53) = false → mid + 1 ≤ uQ p q e) := by
  obtain ⟨a, b, c⟩ := least_facts p q e 2098 (-1074)
  exact ⟨a, by unfold uQ; omega, fun mid h1 h2 => c mid h1 (by omega)⟩
/-- P by Q to the nearest whole number, and between two the even one. -/
def rndQ (P Q : Nat) : Nat := if Q < 2 * (P % Q) ∨ (Q = 2 * (P % Q) ∧ P / Q % 2 = 1) then P / Q + 1 else P / Q
/-- The units, to the nearest. -/
def rQ (p q : Nat) (e : Int) : Nat := if uQ p q e ≤ e then rndQ (p * 2 ^ (e - uQ p q e).toNat) q else rndQ p (q * 2 ^ (uQ p q e - e).toNat)
/-- The nearest float to p by q times 2^e. -/
def nearQ (p q : Nat) (e : Int) : Nat := if 971 < uQ p q e then 9218868437227405312 else Ieee.double.nearest false (rQ p q e) (uQ p q e)
theorem rndQ_le {P Q B : Nat} (hQ : 0 < Q) (h : P < Q * B) : rndQ P Q ≤ B := by
  have : P / Q < B := (Nat.div_lt_iff_lt_mul hQ).2 (by rw [Nat.mul_comm]; exact h)
  unfold rndQ; split <;> omega
theorem rndQ_pos {P Q : Nat} (hQ : 0 < Q) (h : Q ≤ P) : rndQ P Q ≠ 0 := by
  have : 1 ≤ P / Q := (Nat.le_div_iff_mul_le hQ).2 (by omega)
  unfold rndQ; split <;> omega
theorem quo_facts {p q : Nat} {e : Int} (hq : 0 < q) (h : uQ p q e ≤ 971) : rQ p q e ≤ 9007199254740992 ∧ (rQ p q e = 0 → uQ p q e ≤ 0) := by
  obtain ⟨u1, u2, u3⟩ := uQ_facts p q e
  have h53 : (2 : Nat) ^ 53 = 9007199254740992 := by decide
  have hlt : ltQ p q e (uQ p q e + 53) = true := by
    cases hh : ltQ p q e (uQ p q e + 53) with
    | true => rfl
    | false => have := (u3 (uQ p q e) u1 (by omega)).2 hh; omega
  have hge : -1074 < uQ p q e → ltQ p q e (uQ p q e - 1 + 53) = false := fun hu => by
    cases hh : ltQ p q e (uQ p q e - 1 + 53) with
    | false => rfl
    | true => have := (u3 (uQ p q e - 1) (by omega) (by omega)).1 hh; omega
  unfold rQ
  generalize uQ p q e = u at *
  unfold ltQ at hlt hge
  by_cases hue : u ≤ e
  · rw [if_pos hue]
    refine ⟨rndQ_le hq ?_, fun hz => ?_⟩
    · by_cases h1 : e ≤ u + 53
      · rw [if_pos h1] at hlt
        simp only [decide_eq_true_eq] at hlt
        have e1 : (2 : Nat) ^ 53 = 2 ^ (u + 53 - e).toNat * 2 ^ (e - u).toNat := by rw [← Nat.pow_add]; congr 1; omega
        rw [← h53, e1, ← Nat.mul_assoc]
        exact Nat.mul_lt_mul_of_pos_right hlt (n_pow_pos _)
      · rw [if_neg h1] at hlt
        simp only [decide_eq_true_eq] at hlt
        have e1 : 2 ^ (e - u).toNat = 2 ^ (e - (u + 53)).toNat * 2 ^ 53 := by rw [← Nat.pow_add]; congr 1; omega
        rw [e1, ← Nat.mul_assoc, h53]
        exact Nat.mul_lt_mul_of_pos_right hlt (by decide)
    · by_cases hu : -1074 < u
      · exfalso
        have hg := hge hu
        refine rndQ_pos hq ?_ hz
        by_cases h1 : e ≤ u - 1 + 53
        · rw [if_pos h1] at hg
          simp only [decide_eq_false_iff_not] at hg
          have h2 : q * 1 ≤ q * 2 ^ (u - 1 + 53 - e).toNat := Nat.mul_le_mul_left _ (n_pow_pos _)
          have h3 : p * 1 ≤ p * 2 ^ (e - u).toNat := Nat.mul_le_mul_left _ (n_pow_pos _)
          omega
        · rw [if_neg h1] at hg
          simp only [decide_eq_false_iff_not] at hg
          have h3 : 2 ^ (e - (u - 1 + 53)).toNat ≤ 2 ^ (e - u).toNat := Nat.pow_le_pow_right (by decide) (by omega)
          have h4 := Nat.mul_le_mul_left p h3
          omega
      · omega
  · rw [if_neg hue]
    have hQ : 0 < q * 2 ^ (u - e).toNat := Nat.mul_pos hq (n_pow_pos _)
    refine ⟨rndQ_le hQ ?_, fun hz => ?_⟩
    · rw [if_pos (by omega)] at hlt
      simp only [decide_eq_true_eq] at hlt
      have e1 : 2 ^ (u + 53 - e).toNat = 2 ^ (u - e).toNat * 2 ^ 53 := by rw [← Nat.pow_add]; congr 1; omega
      rw [e1, ← Nat.mul_assoc, h53] at hlt
      exact hlt
    · by_cases hu : -1074 < u
      · exfalso
        have hg := hge hu
        refine rndQ_pos hQ ?_ hz
        rw [if_pos (by omega)] at hg
        simp only [decide_eq_false_iff_not] at hg
        have h3 : 2 ^ (u - e).toNat ≤ 2 ^ (u - 1 + 53 - e).toNat := Nat.pow_le_pow_right (by decide) (by omega)
        have h4 := Nat.mul_le_mul_left q h3
        omega
      · omega
theorem quo_near {p q : Nat} {e : Int} (hq : 0 < q) (h : uQ p q e ≤ 971) : IsFl (rQ p q e) (uQ p q e) (nearQ p q e) := by
  unfold nearQ
  rw [if_neg (by omega)]
  exact isFl_near (quo_facts hq h).1 (uQ_facts p q e).1 h
theorem rndQ_cases (P Q : Nat) : (cmpI (((P % Q : Nat) : Int) + ((P % Q : Nat) : Int)) (Q : Int) = 1 ∧ rndQ P Q = P / Q + 1) ∨ (cmpI (((P % Q : Nat) : Int) + ((P % Q : Nat) : Int)) (Q : Int) = 0 ∧ P / Q % 2 = 1 ∧ rndQ P Q = P / Q + 1) ∨
    (cmpI (((P % Q : Nat) : Int) + ((P % Q : Nat) : Int)) (Q : Int) = 0 ∧ P / Q % 2 = 0 ∧ rndQ P Q = P / Q) ∨ (cmpI (((P % Q : Nat) : Int) + ((P % Q : Nat) : Int)) (Q : Int) = -1 ∧ rndQ P Q = P / Q) := by
  unfold rndQ
  generalize P % Q = s
  generalize P / Q = m
  rcases Nat.lt_trichotomy Q (2 * s) with h | h | h
  · exact .inl ⟨cmpI_gt (by omega), if_pos (.inl h)⟩
  · have hq : m % 2 = 1 ∨ m % 2 = 0 := by omega
    rcases hq with hq | hq
    · exact .inr (.inl ⟨cmpI_eq (by omega), hq, if_pos (.inr ⟨h, hq⟩)⟩)
    · exact .inr (.inr (.inl ⟨cmpI_eq (by omega), hq, if_neg (by omega)⟩))
  · exact .inr (.inr (.inr ⟨cmpI_lt (by omega), if_neg (by omega)⟩))
/-- A number of at most 3300 bits. -/
def Mid (z : Nat) : Prop := (z : Int) ≤ 2 ^ 3300
theorem Mid.sized {z : Nat} (h : Mid z) : Sized 20000 (z : Int) := sized_less (by omega) h (by decide)
theorem Mid.times {z N : Nat} (h : Mid z) (hN : N ≤ 11000) : Sized 20000 ((z : Int) * 2 ^ N) := by
  have h2 : (0 : Int) ≤ 2 ^ N := Int.le_of_lt (Int.pow_pos (by decide))
  have h3 := Int.mul_le_mul_of_nonneg_right h h2
  rw [← Int.pow_add] at h3
  exact sized_less (Int.mul_nonneg (by omega) h2) h3 (by omega)
set_option maxHeartbeats 4000000 in
theorem belowq_any (p q : Value) (z y : Nat) (e k : Int) (w : World) (hp : IsNum w p z) (hq : IsNum w q y) (hz : Mid z) (hy : Mid y) (e0 : -9000 ≤ e) (e1 : e ≤ 3000) (k0 : -1100 ≤ k) (k1 : k ≤ 1100) :
    Calls Tryz.prog 211 #[p, q, .int .i64 e, .int .i64 k] w fun r w' => r = .returned (.bool (ltQ z y e k)) ∧ Below w.heap.size w w' := by
  obtain ⟨pb, pp, pl, pc, rfl⟩ := hp.shape
  obtain ⟨qb, qp, ql, qc, rfl⟩ := hq.shape
  have hB := below_two w (.cells #[.bool pb, .slice pp pl pc] 89) (.cells #[.bool qb, .slice qp ql qc] 89)
  have HP := Lib.hid (hp.below hB)
  have HQ := Lib.hid (hq.below hB)
  have hF : Four' w.heap.size (.bool pb) (.slice pp pl pc) (.bool qb) (.slice qp ql qc) ((w.alloc (.cells #[.bool pb, .slice pp pl pc] 89)).alloc (.cells #[.bool qb, .slice qp ql qc] 89)) :=
    ⟨cell_later (below_one _ _) (by simp [go_sem]), cell_later (below_one _ _) (by simp [go_sem]), by simp [go_sem], by simp [go_sem]⟩
  have hF := Lib.hid hF
  have HB := Lib.hid hB
  have hzs := hz.sized
  have hys := hy.sized
  unfold ltQ
  by_cases hke : e ≤ k
  · obtain ⟨N, hN⟩ := Int.eq_ofNat_of_zero_le (a := k - e) (by omega)
    rw [if_pos hke, show (k - e).toNat = N by omega]
    have HT := Lib.hid (fun w1 => two_num (k - e) N (Lib.hid hN) w1 (by omega))
    have h2s := sized_two (N := N) (by omega)
    have hpr := hy.times (N := N) (by omega)
    have HM := Lib.hid (fun w1 u v (hu : IsNum w1 u (y : Int)) (hv : IsNum w1 v (2 ^ N)) => num_mul u v (y : Int) (2 ^ N) 20000 w1 hu hv hys h2s (by decide))
    have HC := Lib.hid (fun w1 u v (hu : IsNum w1 u (z : Int)) (hv : IsNum w1 v ((y : Int) * 2 ^ N)) => num_cmp u v (z : Int) ((y : Int) * 2 ^ N) 20000 w1 hu hv hzs hpr (by decide))
    have hcm : decide (cmpI (z : Int) ((y : Int) * 2 ^ N) < 0) = decide (z < y * 2 ^ N) := by
      rw [decide_eq_decide]
      have h1 := cmpI_ge (x := (z : Int)) (y := (y : Int) * 2 ^ N)
      have h2 : ((y * 2 ^ N : Nat) : Int) = (y : Int) * 2 ^ N := by simp
      omega
    generalize decide (z < y * 2 ^ N) = bb at *
    generalize hgg : cmpI (z : Int) ((y : Int) * 2 ^ N) = cm at *
    have b1 : -20000 ≤ k - e := by omega
    have b2 : k - e ≤ 20000 := by omega
    have hwr : IntKind.i64.wrap (k - e) = k - e := IntWalk.i64_in _ (by omega)
    clear hgg h2s hzs hys hpr hN hp hq hB hz hy
    go_enter Tryz.func211, Tryz.ntmps211
    go_upto_region 2 with fail
    generalize (w.alloc (.cells #[.bool pb, .slice pp pl pc] 89)).alloc (.cells #[.bool qb, .slice qp ql qc] 89) = W at *
    have hk := Four'.call hF.out (Below.refl _ _).drew
    have hBw : Below W.heap.size W W.drew := (Below.refl _ _).drew
    go_region_held3 (fun w' => w'.cell? ⟨w.heap.size, 0, none⟩ = some (.bool pb) ∧ w'.cell? ⟨w.heap.size, 1, none⟩ = some (.slice pp pl pc) ∧ w'.cell? ⟨w.heap.size + 1, 0, none⟩ = some (.bool qb) ∧ w'.cell? ⟨w.heap.size + 1, 1, none⟩ = some (.slice qp ql qc))
      (with_reducible exact hk)
      (first
        | (go_at_call 126; refine (HT.out _).mono ?_; rintro r w1 ⟨t, rfl, ht, hb1⟩; have hk := Four'.call hk hb1; have hBw := hBw.trans (hb1.mono hBw.size))
        | (go_at_call 44; refine (HM.out _ _ _ (HQ.out.below hBw) ht).mono ?_; rintro r w2 ⟨m, rfl, hm, hb2⟩; have hk := Four'.call hk hb2; have hBw := hBw.trans (hb2.mono hBw.size))
        | (go_at_call 125; refine (HC.out _ _ _ (HP.out.below hBw) hm).mono ?_; rintro r w3 ⟨rfl, hb3⟩; have hk := Four'.call hk hb3; have hBw := hBw.trans (hb3.mono hBw.size)))
    have hE := HB.out.trans (hBw.mono HB.out.size)
    clear hk hBw
    go_wp2_with fail
    go_ret
    exact ⟨rfl, hE⟩
  · obtain ⟨N, hN⟩ := Int.eq_ofNat_of_zero_le (a := e - k) (by omega)
    rw [if_neg hke, show (e - k).toNat = N by omega]
    have HT := Lib.hid (fun w1 => two_num (e - k) N (Lib.hid hN) w1 (by omega))
    have h2s := sized_two (N := N) (by omega)
    have hpr := hz.times (N := N) (by omega)
    have HM := Lib.hid (fun w1 u v (hu : IsNum w1 u (z : Int)) (hv : IsNum w1 v (2 ^ N)) => num_mul u v (z : Int) (2 ^ N) 20000 w1 hu hv hzs h2s (by decide))
    have HC := Lib.hid (fun w1 u v (hu : IsNum w1 u ((z : Int) * 2 ^ N)) (hv : IsNum w1 v (y : Int)) => num_cmp u v ((z : Int) * 2 ^ N) (y : Int) 20000 w1 hu hv hpr hys (by decide))
    have hcm : decide (cmpI ((z : Int) * 2 ^ N) (y : Int) < 0) = decide (z * 2 ^ N < y) := by
      rw [decide_eq_decide]
      have h1 := cmpI_ge (x := (z : Int) * 2 ^ N) (y := (y : Int))
      have h2 : ((z * 2 ^ N : Nat) : Int) = (z : Int) * 2 ^ N := by simp
      omega
    generalize decide (z * 2 ^ N < y) = bb at *
    generalize hgg : cmpI ((z : Int) * 2 ^ N) (y : Int) = cm at *
    have b1 : -20000 ≤ e - k := by omega
    have b2 : e - k ≤ 20000 := by omega
    have hwr : IntKind.i64.wrap (e - k) = e - k := IntWalk.i64_in _ (by omega)
    clear hgg h2s hzs hys hpr hN hp hq hB hz hy
    go_enter Tryz.func211, Tryz.ntmps211
    go_upto_region 3 with fail
    generalize (w.alloc (.cells #[.bool pb, .slice pp pl pc] 89)).alloc (.cells #[.bool qb, .slice qp ql qc] 89) = W at *
    have hk := Four'.call hF.out (Below.refl _ _).drew
    have hBw : Below W.heap.size W W.drew := (Below.refl _ _).drew
    go_region_held3 (fun w' => w'.cell? ⟨w.heap.size, 0, none⟩ = some (.bool pb) ∧ w'.cell? ⟨w.heap.size, 1, none⟩ = some (.slice pp pl pc) ∧ w'.cell? ⟨w.heap.size + 1, 0, none⟩ = some (.bool qb) ∧ w'.cell? ⟨w.heap.size + 1, 1, none⟩ = some (.slice qp ql qc))
      (with_reducible exact hk)
      (first
        | (go_at_call 126; refine (HT.out _).mono ?_; rintro r w1 ⟨t, rfl, ht, hb1⟩; have hk := Four'.call hk hb1; have hBw := hBw.trans (hb1.mono hBw.size))
        | (go_at_call 44; refine (HM.out _ _ _ (HP.out.below hBw) ht).mono ?_; rintro r w2 ⟨m, rfl, hm, hb2⟩; have hk := Four'.call hk hb2; have hBw := hBw.trans (hb2.mono hBw.size))
        | (go_at_call 125; refine (HC.out _ _ _ hm (HQ.out.below hBw)).mono ?_; rintro r w3 ⟨rfl, hb3⟩; have hk := Four'.call hk hb3; have hBw := hBw.trans (hb3.mono hBw.size)))
    have hE := HB.out.trans (hBw.mono HB.out.size)
    clear hk hBw
    go_wp2_with fail
    go_ret
    exact ⟨rfl, hE⟩
set_option maxHeartbeats 8000000 in
theorem rnearq_any (p q : Value) (z y : Nat) (e : Int) (w : World) (hp : IsNum w p z) (hq : IsNum w q y) (hz : Mid z) (hy : Mid y) (hy0 : y ≠ 0) (e0 : -9000 ≤ e) (e1 : e ≤ 3000) :
    Calls Tryz.prog 183 #[p, q, .int .i64 e] w fun r w' => r = .returned (.float .f64 (nearQ z y e)) ∧ Below w.heap.size w w' := by
  obtain ⟨pb, pp, pl, pc, rfl⟩ := hp.shape
  obtain ⟨qb, qp, ql, qc, rfl⟩ := hq.shape
  have hPQ := Lib.hid (PQ.start w hp hq)
  have HB := Lib.hid (fun w1 k u v (hu : IsNum w1 u z) (hv : IsNum w1 v y) h1 h2 => belowq_any u v z y e k w1 hu hv hz hy e0 e1 h1 h2)
  have HZ := Lib.hid (And.intro hz (And.intro hy hy0))
  obtain ⟨u1, u2, u3⟩ := uQ_facts z y e
  have HU := Lib.hid u3
  have HI := Lib.hid (fun h => quo_near (p := z) (q := y) (e := e) (by omega) h)
  have HQ := Lib.hid (fun h => quo_facts (p := z) (q := y) (e := e) (by omega) h)
  have HN := Lib.hid (show nearQ z y e = (if 971 < uQ z y e then 9218868437227405312 else Ieee.double.nearest false (rQ z y e) (uQ z y e)) from rfl)
  have HR := Lib.hid (show rQ z y e = (if uQ z y e ≤ e then rndQ (z * 2 ^ (e - uQ z y e).toNat) y else rndQ z (y * 2 ^ (uQ z y e - e).toNat)) from rfl)
  generalize nearQ z y e = R at *
  generalize rQ z y e = r at *
  generalize uQ z y e = U at *
  clear hp hq hz hy hy0 u3
  go_enter Tryz.func183, Tryz.ntmps183
  go_wp2_with fail
  generalize (w.alloc (.cells #[.bool pb, .slice pp pl pc] 89)).alloc (.cells #[.bool qb, .slice qp ql qc] 89) = W at *
  generalize w.heap.size = X at *
  go_loopw [7, 8] (fun lo hi wr => ∃ l h : Int, lo = .int .i64 l ∧ hi = .int .i64 h ∧ -1074 ≤ l ∧ l ≤ h ∧ h ≤ 1024 ∧ l ≤ U ∧ U ≤ h ∧ Hid (PQ w X (.bool pb) (.slice pp pl pc) (.bool qb) (.slice qp ql qc) z y wr)) (fun lo hi _ => (intOf hi - intOf lo).toNat)
  case atStart => exact ⟨-1074, 1024, rfl, rfl, by omega, by omega, by omega, u1, u2, hPQ⟩
  case round =>
    clear hPQ
    obtain ⟨l, h, rfl, rfl, b1, b2, b3, b4, b5, hS⟩ := hrel
    by_cases hlt : l < h
    · obtain ⟨f1, f2, f3, f4⟩ := hS.out.1
      have d0 : 0 ≤ h - l := by omega
      have m1 : l ≤ l + (h - l) / 2 := by omega
      have m2 : l + (h - l) / 2 < h := by omega
      have HB1 := Lib.hid (HB.out wr (l + (h - l) / 2 + 53) _ _ hS.out.2.2.2.1 hS.out.2.2.2.2 (by omega) (by omega))
      have hu := HU.out (l + (h - l) / 2) (by omega) (by omega)
      rcases hb : ltQ z y e (l + (h - l) / 2 + 53) with _ | _
      · rw [hb] at HB1
        have hu2 := hu.2 hb
        clear hu hb
        go_wp2_with fail
        refine (HB1.out).mono ?_; rintro r1 w2 ⟨rfl, hb2⟩
        have hS2 := Lib.hid (hS.out.call hb2)
        clear f1 f2 f3 f4 hS HB1 hb2
        go_wp2_with fail
        go_roundw
        case rel => exact ⟨l + (h - l) / 2 + 1, h, rfl, rfl, by omega, by omega, b3, hu2, b5, hS2⟩
        case measure => simp [intOf]; omega
      · rw [hb] at HB1
        have hu2 := hu.1 hb
        clear hu hb
        go_wp2_with fail
        refine (HB1.out).mono ?_; rintro r1 w2 ⟨rfl, hb2⟩
        have hS2 := Lib.hid (hS.out.call hb2)
        clear f1 f2 f3 f4 hS HB1 hb2
        go_wp2_with fail
        go_roundw
        case rel => exact ⟨l, l + (h - l) / 2, rfl, rfl, b1, m1, by omega, b4, hu2, hS2⟩
        case measure => simp [intOf]; omega
    · obtain rfl : h = l := by omega
      obtain rfl : U = h := by omega
      clear b2 b4 b5 HB HU hlt u1 u2
      by_cases hov : 971 < U
      · have hR := Lib.hid (show R = 9218868437227405312 by rw [HN.out, if_pos hov])
        have HO := Lib.hid (fun w => rtimes_up 4503599627370496 (-52) 2000 w ⟨by decide, by decide, .inl (by decide)⟩ (by decide) (by decide) (by decide) (by decide))
        have hr1 : rungOf 4503599627370496 (-52) = 4607182418800017408 := by decide
        have hr2 : upR 4503599627370496 (-52) 2000 = 9218868437227405312 := by decide
        rw [hr1, hr2] at HO
        have hE := Lib.hid hS.out.2.1.1
        clear hr1 hr2 HN HI HQ HR HZ hS
        go_wp2_with fail
        refine (HO.out _).mono ?_; rintro r1 w2 ⟨rfl, hd⟩
        go_wp2_with fail
        go_ret
        exact ⟨ret_float hR.out.symm, hE.out.trans (hd.below.mono hE.out.size)⟩
      · have g2 := HI.out (by omega)
        obtain ⟨g1, g3⟩ := HQ.out (by omega)
        have HT := Lib.hid (fun w => rtimes_int r U R w g1 b1 (by omega) g2 g3)
        have hzs := HZ.out.1.sized
        have hys := HZ.out.2.1.sized
        have hy0 := HZ.out.2.2
        by_cases hle : U ≤ e
        · obtain ⟨N, hNe⟩ := Int.eq_ofNat_of_zero_le (a := e - U) (by omega)
          have hrn : r = rndQ (z * 2 ^ N) y := by
            rw [HR.out, if_pos hle, show (e - U).toNat = N by omega]
          have hPs := HZ.out.1.times (N := N) (by omega)
          have hQ2 := HZ.out.2.1.times (N := 1) (by omega)
          have hQs := hys
          have hPc : (z : Int) * 2 ^ N = ((z * 2 ^ N : Nat) : Int) := by simp
          have h2y : (y : Int) * 2 ^ 1 = 2 * (y : Int) := by rw [Int.pow_succ, Int.pow_zero]; omega
          rw [h2y] at hQ2
          have HT2 := Lib.hid (fun w1 => two_num (e - U) N (Lib.hid hNe) w1 (by omega))
          have h2s := sized_two (N := N) (by omega)
          have HM := Lib.hid (fun w1 u v (hu : IsNum w1 u (z : Int)) (hv : IsNum w1 v (2 ^ N)) => num_mul u v (z : Int) (2 ^ N) 20000 w1 hu hv hzs h2s (by decide))
          have hQ0 : 0 < y := by omega
          rw [hPc] at HM hPs
          have hwr : IntKind.i64.wrap (e - U) = e - U := IntWalk.i64_in _ (by omega)
          have b8 : -20000 ≤ e - U := by omega
          have b9 : e - U ≤ 20000 := by omega
          clear hPc h2y h2s hNe hzs hys hy0 g2 g3 HN HI HQ HR HZ
          generalize z * 2 ^ N = P at *
          obtain ⟨Q, hyQ⟩ : ∃ Q, Q = y := ⟨_, rfl⟩
          rw [← hyQ] at hrn hQs hQ2 hQ0 hS
          clear hyQ
          have hcase := rndQ_cases P Q
          rw [← hrn] at hcase
          have hml := Nat.mod_lt P hQ0
          have hMr : P / Q ≤ r := by rw [hrn]; unfold rndQ; split <;> omega
          have hfd : (P : Int).fdiv (Q : Int) = ((P / Q : Nat) : Int) := by rw [Int.fdiv_eq_ediv_of_nonneg _ (by omega), Int.natCast_ediv]
          have hfm : (P : Int).fmod (Q : Int) = ((P % Q : Nat) : Int) := by rw [Int.fmod_eq_emod_of_nonneg _ (by omega), Int.natCast_emod]
          have HD := Lib.hid (fun w1 u v (hu : IsNum w1 u (P : Int)) (hv : IsNum w1 v (Q : Int)) => num_div u v (P : Int) (Q : Int) 20000 w1 hu hv hPs hQs (by decide) (by omega))
          rw [hfd, hfm] at HD
          generalize P / Q = Mq at *
          generalize P % Q = Lf at *
          have hls : Sized 20000 (Lf : Int) := ⟨by have := hQs.1; omega, by have := hQs.2; omega⟩
          have hlls : Sized 20000 ((Lf : Int) + Lf) := ⟨by have := hQ2.1; omega, by have := hQ2.2; omega⟩
          have HAd := Lib.hid (fun w1 u (hu : IsNum w1 u (Lf : Int)) => num_add u u (Lf : Int) Lf 20000 w1 hu hu hls hls (by decide))
          have HC := Lib.hid (fun w1 u v (hu : IsNum w1 u ((Lf : Int) + Lf)) (hv : IsNum w1 v (Q : Int)) => num_cmp u v ((Lf : Int) + Lf) (Q : Int) 20000 w1 hu hv hlls hQs (by decide))
          have HUi := Lib.hid (fun w1 u (hu : IsNum w1 u (Mq : Int)) => num_uint u (Mq : Int) w1 hu (by omega) (by omega))
          have hna : (((Mq : Int).natAbs : Nat) : Int) = (Mq : Int) := by simp
          rw [hna] at HUi
          generalize cmpI ((Lf : Int) + Lf) (Q : Int) = cm at *
          have hcase := Lib.hid hcase
          have bM : (Mq : Int) ≤ 9007199254740992 := by omega
          obtain ⟨f1, f2, f3, f4⟩ := hS.out.1
          clear hls hlls hna hfd hfm hMr hml hPs hQs hQ2 hQ0 hrn g1
          go_wp2_with fail
          go_region_with (first
            | (go_at_call 126; refine (HT2.out _).mono ?_; rintro r1 w1 ⟨t, rfl, ht, hb1⟩; replace hb1 := below_drew' hb1; have hS1 := hS.out.call hb1; obtain ⟨q1, q2, q3, q4⟩ := hS1.1)
            | (go_at_call 44; refine (HM.out _ _ _ hS1.2.2.2.1 ht).mono ?_; rintro r2 w2 ⟨m0, rfl, hm, hb2⟩; have hS2 := hS1.call hb2; obtain ⟨rn, rp, rl, rc, rfl⟩ := hm.shape; obtain ⟨⟨x2, hx2⟩, ⟨y2, hy2⟩, hf1, hf2⟩ := hS2.2.1.cells))
          all_goals
            have hS5 := Lib.hid (hS2.storeP hm)
            clear hS1 hS2 hm ht hb1 hb2 q1 q2 q3 q4 f1 f2 f3 f4 hx2 hy2 hf1 hf2 HT2 HM hS hwr
            generalize (w2.setCell ⟨X, 0, none⟩ (.bool rn)).setCell ⟨X, 1, none⟩ (.slice rp rl rc) = W5 at *
            obtain ⟨f1, f2, f3, f4⟩ := hS5.out.1
            go_wp2_with fail
            refine (HD.out _ _ _ hS5.out.2.2.2.1 hS5.out.2.2.2.2).mono ?_; rintro r3 w6 ⟨mq, lf, rfl, hmq, hlf, hb6⟩
            obtain ⟨mb, mp, ml, mc, rfl⟩ := hmq.shape
            obtain ⟨lb, lp, ll, lc, rfl⟩ := hlf.shape
            have hS6 := hS5.out.call hb6
            have hb7 := below_two w6 (.cells #[.bool mb, .slice mp ml mc] 89) (.cells #[.bool lb, .slice lp ll lc] 89)
            have hS7 := hS6.call hb7
            have Hmq := Lib.hid (hmq.below hb7)
            have Hlf := Lib.hid (hlf.below hb7)
            have Hqn := Lib.hid hS7.2.2.2.2
            have h6 : SixAt w6.heap.size (w6.heap.size + 1) (X + 1) (.bool mb) (.slice mp ml mc) (.bool lb) (.slice lp ll lc) (.bool qb) (.slice qp ql qc) ((w6.alloc (.cells #[.bool mb, .slice mp ml mc] 89)).alloc (.cells #[.bool lb, .slice lp ll lc] 89)) :=
              ⟨⟨cell_later (below_one _ _) (by simp [go_sem]), cell_later (below_one _ _) (by simp [go_sem])⟩, ⟨by simp [go_sem], by simp [go_sem]⟩, hS7.1.2.2.1, hS7.1.2.2.2⟩
            have H6 := Lib.hid h6
            have HE := Lib.hid hS7.2.1.1
            clear f1 f2 f3 f4 hS5 hS6 hS7 hb6 hb7 h6 HD hmq hlf
            go_upto_region 17 with fail
            generalize (w6.alloc (.cells #[.bool mb, .slice mp ml mc] 89)).alloc (.cells #[.bool lb, .slice lp ll lc] 89) = W7 at *
            have hk := SixAt.call H6.out (Below.refl _ _).drew
            have hBw : Below W7.heap.size W7 W7.drew := (Below.refl _ _).drew
            go_region_held3 (fun w' => (w'.cell? ⟨w6.heap.size, 0, none⟩ = some (.bool mb) ∧ w'.cell? ⟨w6.heap.size, 1, none⟩ = some (.slice mp ml mc)) ∧ (w'.cell? ⟨w6.heap.size + 1, 0, none⟩ = some (.bool lb) ∧ w'.cell? ⟨w6.heap.size + 1, 1, none⟩ = some (.slice lp ll lc)) ∧ (w'.cell? ⟨X + 1, 0, none⟩ = some (.bool qb) ∧ w'.cell? ⟨X + 1, 1, none⟩ = some (.slice qp ql qc)))
              (with_reducible exact hk)
              (first
                | (go_at_call 55; refine (HAd.out _ _ (Hlf.out.below hBw)).mono ?_; rintro r4 w8 ⟨sm, rfl, hsm, hb8⟩; have hk := SixAt.call hk hb8; have hBw := hBw.trans (hb8.mono hBw.size))
                | (go_at_call 125; refine (HC.out _ _ _ hsm (Hqn.out.below hBw)).mono ?_; rintro r5 w9 ⟨rfl, hb9⟩; have hk := SixAt.call hk hb9; have hBw := hBw.trans (hb9.mono hBw.size)))
            obtain ⟨⟨k1, k2⟩, -, -⟩ := hk
            have HUi2 := Lib.hid (HUi.out _ _ (Hmq.out.below hBw))
            have HE := Lib.hid (HE.out.trans (hBw.mono HE.out.size))
            clear hk hBw H6 HAd HC Hmq Hlf Hqn HUi hsm hb8 hb9
            go_wp2_with fail
            refine (HUi2.out).mono ?_; rintro r6 w10 ⟨rfl, hb10⟩
            have HE := Lib.hid (HE.out.trans (hb10.mono HE.out.size))
            clear k1 k2 hb10 HUi2
            rcases hcase.out with ⟨rfl, hr⟩ | ⟨rfl, hm1, hr⟩ | ⟨rfl, hm1, hr⟩ | ⟨rfl, hr⟩
            · have hr2 : (Mq : Int) + 1 = (r : Int) := by omega
              clear hr hcase
              go_wp2_with fail
              refine (HT.out _).mono ?_; rintro r7 w11 ⟨rfl, hd⟩
              go_wp2_with fail
              go_ret
              exact ⟨rfl, HE.out.trans (hd.below.mono HE.out.size)⟩
            · have hr2 : (Mq : Int) + 1 = (r : Int) := by omega
              have hm2 : ((Mq : Int) % 2 == 1) = true := by simp; omega
              clear hr hcase hm1
              go_wp2_with fail
              refine (HT.out _).mono ?_; rintro r7 w11 ⟨rfl, hd⟩
              go_wp2_with fail
              go_ret
              exact ⟨rfl, HE.out.trans (hd.below.mono HE.out.size)⟩
            · have hr2 : (Mq : Int) = (r : Int) := by omega
              have hm2 : ((Mq : Int) % 2 == 1) = false := by simp; omega
              rw [← hr2] at HT
              clear hr hcase hm1 hr2
              go_wp2_with fail
              refine (HT.out _).mono ?_; rintro r7 w11 ⟨rfl, hd⟩
              go_wp2_with fail
              go_ret
              exact ⟨rfl, HE.out.trans (hd.below.mono HE.out.size)⟩
            · have hr2 : (Mq : Int) = (r : Int) := by omega
              rw [← hr2] at HT
              clear hr hcase hr2
              go_wp2_with fail
              refine (HT.out _).mono ?_; rintro r7 w11 ⟨rfl, hd⟩
              go_wp2_with fail
              go_ret
              exact ⟨rfl, HE.out.trans (hd.below.mono HE.out.size)⟩
        · obtain ⟨N, hNe⟩ := Int.eq_ofNat_of_zero_le (a := U - e) (by omega)
          have hrn : r = rndQ z (y * 2 ^ N) := by
            rw [HR.out, if_neg hle, show (U - e).toNat = N by omega]
          have hQs := HZ.out.2.1.times (N := N) (by omega)
          have hQ2 := HZ.out.2.1.times (N := N + 1) (by omega)
          have hPs := hzs
          have hQc : (y : Int) * 2 ^ N = ((y * 2 ^ N : Nat) : Int) := by simp
          have h2y : (y : Int) * 2 ^ (N + 1) = 2 * ((y * 2 ^ N : Nat) : Int) := by rw [Int.pow_succ, ← Int.mul_assoc, hQc]; omega
          rw [h2y] at hQ2
          have HT2 := Lib.hid (fun w1 => two_num (U - e) N (Lib.hid hNe) w1 (by omega))
          have h2s := sized_two (N := N) (by omega)
          have HM := Lib.hid (fun w1 u v (hu : IsNum w1 u (y : Int)) (hv : IsNum w1 v (2 ^ N)) => num_mul u v (y : Int) (2 ^ N) 20000 w1 hu hv hys h2s (by decide))
          have hQ0 : 0 < y * 2 ^ N := Nat.mul_pos (by omega) (n_pow_pos _)
          rw [hQc] at HM hQs
          have hwr : IntKind.i64.wrap (U - e) = U - e := IntWalk.i64_in _ (by omega)
          have b8 : -20000 ≤ U - e := by omega
          have b9 : U - e ≤ 20000 := by omega
          clear hQc h2y h2s hNe hzs hys hy0 g2 g3 HN HI HQ HR HZ
          generalize y * 2 ^ N = Q at *
          obtain ⟨P, hzP⟩ : ∃ P, P = z := ⟨_, rfl⟩
          rw [← hzP] at hrn hPs hS
          clear hzP
          have hcase := rndQ_cases P Q
          rw [← hrn] at hcase
          have hml := Nat.mod_lt P hQ0
          have hMr : P / Q ≤ r := by rw [hrn]; unfold rndQ; split <;> omega
          have hfd : (P : Int).fdiv (Q : Int) = ((P / Q : Nat) : Int) := by rw [Int.fdiv_eq_ediv_of_nonneg _ (by omega), Int.natCast_ediv]
          have hfm : (P : Int).fmod (Q : Int) = ((P % Q : Nat) : Int) := by rw [Int.fmod_eq_emod_of_nonneg _ (by omega), Int.natCast_emod]
          have HD := Lib.hid (fun w1 u v (hu : IsNum w1 u (P : Int)) (hv : IsNum w1 v (Q : Int)) => num_div u v (P : Int) (Q : Int) 20000 w1 hu hv hPs hQs (by decide) (by omega))
          rw [hfd, hfm] at HD
          generalize P / Q = Mq at *
          generalize P % Q = Lf at *
          have hls : Sized 20000 (Lf : Int) := ⟨by have := hQs.1; omega, by have := hQs.2; omega⟩
          have hlls : Sized 20000 ((Lf : Int) + Lf) := ⟨by have := hQ2.1; omega, by have := hQ2.2; omega⟩
          have HAd := Lib.hid (fun w1 u (hu : IsNum w1 u (Lf : Int)) => num_add u u (Lf : Int) Lf 20000 w1 hu hu hls hls (by decide))
          have HC := Lib.hid (fun w1 u v (hu : IsNum w1 u ((Lf : Int) + Lf)) (hv : IsNum w1 v (Q : Int)) => num_cmp u v ((Lf : Int) + Lf) (Q : Int) 20000 w1 hu hv hlls hQs (by decide))
          have HUi := Lib.hid (fun w1 u (hu : IsNum w1 u (Mq : Int)) => num_uint u (Mq : Int) w1 hu (by omega) (by omega))
          have hna : (((Mq : Int).natAbs : Nat) : Int) = (Mq : Int) := by simp
          rw [hna] at HUi
          generalize cmpI ((Lf : Int) + Lf) (Q : Int) = cm at *
          have hcase := Lib.hid hcase
          have bM : (Mq : Int) ≤ 9007199254740992 := by omega
          obtain ⟨f1, f2, f3, f4⟩ := hS.out.1
          clear hls hlls hna hfd hfm hMr hml hPs hQs hQ2 hQ0 hrn g1
          go_wp2_with fail
          go_region_with (first
            | (go_at_call 126; refine (HT2.out _).mono ?_; rintro r1 w1 ⟨t, rfl, ht, hb1⟩; replace hb1 := below_drew' hb1; have hS1 := hS.out.call hb1; obtain ⟨q1, q2, q3, q4⟩ := hS1.1)
            | (go_at_call 44; refine (HM.out _ _ _ hS1.2.2.2.2 ht).mono ?_; rintro r2 w2 ⟨m0, rfl, hm, hb2⟩; have hS2 := hS1.call hb2; obtain ⟨rn, rp, rl, rc, rfl⟩ := hm.shape; obtain ⟨⟨x2, hx2⟩, ⟨y2, hy2⟩, hf1, hf2⟩ := hS2.2.2.1.cells))
          all_goals
            have hS5 := Lib.hid (hS2.storeQ hm)
            clear hS1 hS2 hm ht hb1 hb2 q1 q2 q3 q4 f1 f2 f3 f4 hx2 hy2 hf1 hf2 HT2 HM hS hwr
            generalize (w2.setCell ⟨X + 1, 0, none⟩ (.bool rn)).setCell ⟨X + 1, 1, none⟩ (.slice rp rl rc) = W5 at *
            obtain ⟨f1, f2, f3, f4⟩ := hS5.out.1
            go_wp2_with fail
            refine (HD.out _ _ _ hS5.out.2.2.2.1 hS5.out.2.2.2.2).mono ?_; rintro r3 w6 ⟨mq, lf, rfl, hmq, hlf, hb6⟩
            obtain ⟨mb, mp, ml, mc, rfl⟩ := hmq.shape
            obtain ⟨lb, lp, ll, lc, rfl⟩ := hlf.shape
            have hS6 := hS5.out.call hb6
            have hb7 := below_two w6 (.cells #[.bool mb, .slice mp ml mc] 89) (.cells #[.bool lb, .slice lp ll lc] 89)
            have hS7 := hS6.call hb7
            have Hmq := Lib.hid (hmq.below hb7)
            have Hlf := Lib.hid (hlf.below hb7)
            have Hqn := Lib.hid hS7.2.2.2.2
            have h6 : SixAt w6.heap.size (w6.heap.size + 1) (X + 1) (.bool mb) (.slice mp ml mc) (.bool lb) (.slice lp ll lc) (.bool rn) (.slice rp rl rc) ((w6.alloc (.cells #[.bool mb, .slice mp ml mc] 89)).alloc (.cells #[.bool lb, .slice lp ll lc] 89)) :=
              ⟨⟨cell_later (below_one _ _) (by simp [go_sem]), cell_later (below_one _ _) (by simp [go_sem])⟩, ⟨by simp [go_sem], by simp [go_sem]⟩, hS7.1.2.2.1, hS7.1.2.2.2⟩
            have H6 := Lib.hid h6
            have HE := Lib.hid hS7.2.1.1
            clear f1 f2 f3 f4 hS5 hS6 hS7 hb6 hb7 h6 HD hmq hlf
            go_upto_region 17 with fail
            generalize (w6.alloc (.cells #[.bool mb, .slice mp ml mc] 89)).alloc (.cells #[.bool lb, .slice lp ll lc] 89) = W7 at *
            have hk := SixAt.call H6.out (Below.refl _ _).drew
            have hBw : Below W7.heap.size W7 W7.drew := (Below.refl _ _).drew
            go_region_held3 (fun w' => (w'.cell? ⟨w6.heap.size, 0, none⟩ = some (.bool mb) ∧ w'.cell? ⟨w6.heap.size, 1, none⟩ = some (.slice mp ml mc)) ∧ (w'.cell? ⟨w6.heap.size + 1, 0, none⟩ = some (.bool lb) ∧ w'.cell? ⟨w6.heap.size + 1, 1, none⟩ = some (.slice lp ll lc)) ∧ (w'.cell? ⟨X + 1, 0, none⟩ = some (.bool rn) ∧ w'.cell? ⟨X + 1, 1, none⟩ = some (.slice rp rl rc)))
              (with_reducible exact hk)
              (first
                | (go_at_call 55; refine (HAd.out _ _ (Hlf.out.below hBw)).mono ?_; rintro r4 w8 ⟨sm, rfl, hsm, hb8⟩; have hk := SixAt.call hk hb8; have hBw := hBw.trans (hb8.mono hBw.size))
                | (go_at_call 125; refine (HC.out _ _ _ hsm (Hqn.out.below hBw)).mono ?_; rintro r5 w9 ⟨rfl, hb9⟩; have hk := SixAt.call hk hb9; have hBw := hBw.trans (hb9.mono hBw.size)))
            obtain ⟨⟨k1, k2⟩, -, -⟩ := hk
            have HUi2 := Lib.hid (HUi.out _ _ (Hmq.out.below hBw))
            have HE := Lib.hid (HE.out.trans (hBw.mono HE.out.size))
            clear hk hBw H6 HAd HC Hmq Hlf Hqn HUi hsm hb8 hb9
            go_wp2_with fail
            refine (HUi2.out).mono ?_; rintro r6 w10 ⟨rfl, hb10⟩
            have HE := Lib.hid (HE.out.trans (hb10.mono HE.out.size))
            clear k1 k2 hb10 HUi2
            rcases hcase.out with ⟨rfl, hr⟩ | ⟨rfl, hm1, hr⟩ | ⟨rfl, hm1, hr⟩ | ⟨rfl, hr⟩
            · have hr2 : (Mq : Int) + 1 = (r : Int) := by omega
              clear hr hcase
              go_wp2_with fail
              refine (HT.out _).mono ?_; rintro r7 w11 ⟨rfl, hd⟩
              go_wp2_with fail
              go_ret
              exact ⟨rfl, HE.out.trans (hd.below.mono HE.out.size)⟩
            · have hr2 : (Mq : Int) + 1 = (r : Int) := by omega
              have hm2 : ((Mq : Int) % 2 == 1) = true := by simp; omega
              clear hr hcase hm1
              go_wp2_with fail
              refine (HT.out _).mono ?_; rintro r7 w11 ⟨rfl, hd⟩
              go_wp2_with fail
              go_ret
              exact ⟨rfl, HE.out.trans (hd.below.mono HE.out.size)⟩
            · have hr2 : (Mq : Int) = (r : Int) := by omega
              have hm2 : ((Mq : Int) % 2 == 1) = false := by simp; omega
              rw [← hr2] at HT
              clear hr hcase hm1 hr2
              go_wp2_with fail
              refine (HT.out _).mono ?_; rintro r7 w11 ⟨rfl, hd⟩
              go_wp2_with fail
              go_ret
              exact ⟨rfl, HE.out.trans (hd.below.mono HE.out.size)⟩
            · have hr2 : (Mq : Int) = (r : Int) := by omega
              rw [← hr2] at HT
              clear hr hcase hr2
              go_wp2_with fail
              refine (HT.out _).mono ?_; rintro r7 w11 ⟨rfl, hd⟩
              go_wp2_with fail
              go_ret
              exact ⟨rfl, HE.out.trans (hd.below.mono HE.out.size)⟩
end Go.Proofs.YtigikgphipebiaaGreatDoor
/- The nearest float to a root of a quotient: by one bit for what is left over. Plain facts. -/
namespace Go.Proofs.YtigikgphipebiaaGreatDoor
set_option maxRecDepth 100000
open Go.RowKit
set_option linter.unusedVariables false
/-- The nearest float, in one formula. -/
theorem nearW_one {z : Nat} (e : Int) (h0 : z ≠ 0) : nearW z e = if 971 < (bitsZ z : Int) + e - 53 then 9218868437227405312 else Ieee.double.nearest false (rN z (bitsZ z) e) (rU (bitsZ z) e) := by
  have hlt := bits_lt_nat h0
  unfold nearW
  by_cases h1 : e + bitsZ z < -1074
  · rw [if_pos (.inr h1), if_neg (by omega), near_low hlt h1, nearest_zero]; rfl
  · rw [if_neg (by omega)]
    by_cases h2 : 1024 < e + bitsZ z
    · rw [if_pos h2, if_pos (by omega)]
    · rw [if_neg h2, if_neg (by omega)]
theorem lt_two_iff {N : Nat} (h0 : N ≠ 0) (k : Nat) : N < 2 ^ k ↔ bitsZ (N : Int) ≤ k := by
  have := two_lt_iff (z := N) (N := k) h0
  have e : ((2 ^ k : Nat) : Int) = (2 : Int) ^ k := by simp
  constructor
  · intro h; exact this.1 (by omega)
  · intro h; have := this.2 h; omega
set_option maxRecDepth 100000
open Go.RowKit
set_option linter.unusedVariables false
/-- Is m 2^u at most the root of p by q? -/
def fitsB (m : Nat) (u : Int) (p q : Nat) : Bool := if 0 ≤ u then decide (m * m * q * 2 ^ (2 * u).toNat ≤ p) else decide (m * m * q ≤ p * 2 ^ (-2 * u).toNat)
theorem fitsB_less {m n : Nat} {u : Int} {p q : Nat} (h : fitsB n u p q = true) (hm : m ≤ n) : fitsB m u p q = true := by
  unfold fitsB at *
  have h1 : m * m ≤ n * n := Nat.mul_le_mul hm hm
  by_cases hu : 0 ≤ u
  · rw [if_pos hu] at h ⊢
    simp only [decide_eq_true_eq] at h ⊢
    exact Nat.le_trans (Nat.mul_le_mul_right _ (Nat.mul_le_mul_right _ h1)) h
  · rw [if_neg hu] at h ⊢
    simp only [decide_eq_true_eq] at h ⊢
    exact Nat.le_trans (Nat.mul_le_mul_right _ h1) h
def leastFit (p q : Nat) : Nat → Int → Int
  | 0, k => k
  | n + 1, k => if fitsB (2 ^ 53) k p q then leastFit p q n (k + 1) else k
/-- The unit of a root. -/
def uF (p q : Nat) : Int := leastFit p q 2674 (-1074)
/-- The units that fit: all of them and no more. -/
def IsFit (p q m : Nat) : Prop := fitsB m (uF p q) p q = true ∧ fitsB (m + 1) (uF p q) p q = false
theorem IsFit.unique {p q m n : Nat} (h : IsFit p q m) (k : IsFit p q n) : m = n := by
  rcases Nat.lt_trichotomy m n with g | g | g
  · have := fitsB_less k.1 (show m + 1 ≤ n by omega); rw [h.2] at this; cases this
  · exact g
  · have := fitsB_less h.1 (show n + 1 ≤ m by omega); rw [k.2] at this; cases this
set_option maxRecDepth 100000
open Go.RowKit
set_option linter.unusedVariables false
/-- r is the root of p 4^h by q, rounded down; x tells whether anything is left over. -/
def IsRoo (p q h r x : Nat) : Prop := r * r * q ≤ p * 2 ^ (2 * h) ∧ p * 2 ^ (2 * h) < (r + 1) * (r + 1) * q ∧ ((x = 0 ∧ r * r * q = p * 2 ^ (2 * h)) ∨ (x = 1 ∧ r * r * q < p * 2 ^ (2 * h)))
theorem IsRoo.sq {p q h r x : Nat} (g : IsRoo p q h r x) (a : Nat) : a * a * q ≤ p * 2 ^ (2 * h) ↔ a ≤ r := by
  constructor
  · intro h1
    apply Classical.byContradiction
    intro h2
    have h3 : r + 1 ≤ a := by omega
    have h4 := Nat.mul_le_mul_right q (Nat.mul_le_mul h3 h3)
    have := g.2.1
    omega
  · intro h1
    exact Nat.le_trans (Nat.mul_le_mul_right q (Nat.mul_le_mul h1 h1)) g.1
theorem bits_upto {M N : Nat} (h0 : M ≠ 0) (h : M < 2 ^ N) : bitsZ (M : Int) ≤ N := (lt_two_iff h0 N).1 h
end Go.Proofs.YtigikgphipebiaaGreatDoor
