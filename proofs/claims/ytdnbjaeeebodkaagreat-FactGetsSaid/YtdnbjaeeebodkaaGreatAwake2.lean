/- The examples of the chapter nat: the helper that every statement of layer 2 asks at its end answers true. -/
import Derived.Test.YtdnbjaeeebodkaaGreatNatv
namespace Go.Proofs.YtdnbjaeeebodkaaGreat
set_option maxRecDepth 100000
open Go.RowKit
set_option linter.unusedVariables false
theorem tidy_tail {x : Int} {t : List Int} (h : Tidy (x :: t)) : Tidy t := by
  by_cases e : t = []
  · exact .inl e
  · refine .inr ?_
    have h1 := h.resolve_left (by simp)
    have hl : 0 < t.length := List.length_pos_iff.2 e
    have e2 : (x :: t).getD ((x :: t).length - 1) 0 = t.getD (t.length - 1) 0 := by
      obtain ⟨n, hn⟩ : ∃ n, t.length = n + 1 := ⟨t.length - 1, by omega⟩
      simp [List.getD, hn]
    rw [e2] at h1; exact h1
theorem wv_cons (x : Int) (t : List Int) : wv (x :: t) = x + 4294967296 * wv t := by
  have := wv_head (a := x :: t) (by simp)
  simpa using this
theorem tidy_unique : ∀ {a b : List Int}, Wd a → Wd b → Tidy a → Tidy b → wv a = wv b → a = b
  | [], b, _, hb, _, tb, h => by
    have := (tb.wzero hb).1 (by rw [← h]; rfl)
    exact this.symm
  | x :: t, [], ha, _, ta, _, h => (ta.wzero ha).1 (by rw [h]; rfl)
  | x :: t, y :: s, ha, hb, ta, tb, h => by
    rw [wv_cons, wv_cons] at h
    have hx := ha x (by simp)
    have hy := hb y (by simp)
    have e : x = y := by omega
    have e2 : wv t = wv s := by omega
    rw [e, tidy_unique (fun z hz => ha z (List.mem_cons_of_mem _ hz)) (fun z hz => hb z (List.mem_cons_of_mem _ hz)) (tidy_tail ta) (tidy_tail tb) e2]
theorem IsNat.list {w : World} {v : Value} {z : Int} {l : List Int} (h : IsNat w v z) (hd : Wd l) (ht : Tidy l) (hz : wv l = z) : WList w v l := by
  obtain ⟨a, h1, h2, h3⟩ := h
  have := tidy_unique h1.2.1 hd h2 ht (by rw [h3, hz])
  rw [← this]; exact h1
theorem decI_fold (l : List UInt8) : ∀ z : Int, l.foldl (fun z c => z * 10 + ((c.toNat : Int) - 48)) z = z * 10 ^ l.length + decI l := by
  induction l with
  | nil => intro z; simp [decI]
  | cons c l ih =>
    intro z
    have h1 := ih (z * 10 + ((c.toNat : Int) - 48))
    have h2 := ih (0 * 10 + ((c.toNat : Int) - 48))
    rw [List.foldl_cons, decI, List.foldl_cons, h1, h2, List.length_cons, Int.pow_succ, Int.add_mul, Int.add_mul, Int.mul_assoc, Int.mul_comm 10 (10 ^ l.length)]
    simp; omega
theorem decI_cons (c : UInt8) (l : List UInt8) : decI (c :: l) = ((c.toNat : Int) - 48) * 10 ^ l.length + decI l := by
  rw [decI, List.foldl_cons, decI_fold]; simp
theorem decI_range {l : List UInt8} (h : l.all isDig = true) : 0 ≤ decI l ∧ decI l < 10 ^ l.length := by
  induction l with
  | nil => simp [decI]
  | cons c l ih =>
    rw [List.all_cons, Bool.and_eq_true, isDig_iff] at h
    have h1 := ih h.2
    rw [decI_cons, List.length_cons, Int.pow_succ]
    have hp := t_pos l.length
    have h2 : 0 ≤ ((c.toNat : Int) - 48) * 10 ^ l.length := Int.mul_nonneg (by omega) (by omega)
    have h3 : ((c.toNat : Int) - 48) * 10 ^ l.length ≤ 9 * 10 ^ l.length := Int.mul_le_mul_of_nonneg_right (by omega) (by omega)
    omega
theorem dec_same : ∀ {l m : List UInt8}, l.all isDig = true → m.all isDig = true → l.length = m.length → decI l = decI m → l = m
  | [], [], _, _, _, _ => rfl
  | [], _ :: _, _, _, h, _ => by simp at h
  | _ :: _, [], _, _, h, _ => by simp at h
  | c :: l, d :: m, hl, hm, hlen, h => by
    rw [List.all_cons, Bool.and_eq_true, isDig_iff] at hl hm
    have hlen2 : l.length = m.length := by simpa using hlen
    rw [decI_cons, decI_cons, hlen2] at h
    have r1 := decI_range hl.2
    have r2 := decI_range hm.2
    rw [hlen2] at r1
    have hp := t_pos m.length
    generalize (10 : Int) ^ m.length = P at *
    have e : (c.toNat : Int) - 48 = (d.toNat : Int) - 48 := by
      rcases Int.lt_trichotomy ((c.toNat : Int) - 48) ((d.toNat : Int) - 48) with q | q | q
      · have := Int.mul_le_mul_of_nonneg_right (show (c.toNat : Int) - 48 + 1 ≤ (d.toNat : Int) - 48 by omega) (Int.le_of_lt hp)
        rw [Int.add_mul] at this; omega
      · exact q
      · have := Int.mul_le_mul_of_nonneg_right (show (d.toNat : Int) - 48 + 1 ≤ (c.toNat : Int) - 48 by omega) (Int.le_of_lt hp)
        rw [Int.add_mul] at this; omega
    rw [e] at h
    have e2 : c = d := UInt8.toNat_inj.1 (by omega)
    rw [e2, dec_same hl.2 hm.2 hlen2 (by omega)]
theorem isDec_low {l : List UInt8} {z : Int} (h : IsDec l z) (h0 : l.head? ≠ some 48) : 10 ^ (l.length - 1) ≤ z := by
  obtain ⟨h1, h2, h3, h4⟩ := h
  cases l with
  | nil => exact absurd rfl h3
  | cons c l =>
    rw [List.all_cons, Bool.and_eq_true, isDig_iff] at h1
    have hc : c.toNat ≠ 48 := fun e => h0 (by rw [show c = 48 from UInt8.toNat_inj.1 e]; rfl)
    have r := decI_range h1.2
    have hp := t_pos l.length
    have h5 : 1 * 10 ^ l.length ≤ ((c.toNat : Int) - 48) * 10 ^ l.length := Int.mul_le_mul_of_nonneg_right (by omega) (by omega)
    rw [decI_cons] at h2
    rw [List.length_cons, Nat.add_sub_cancel]; omega
theorem ten_mono {m n : Nat} (h : m ≤ n) : (10 : Int) ^ m ≤ 10 ^ n := by
  have := Nat.pow_le_pow_right (n := 10) (by decide) h
  have e1 : ((10 ^ m : Nat) : Int) = (10 : Int) ^ m := by simp
  have e2 : ((10 ^ n : Nat) : Int) = (10 : Int) ^ n := by simp
  omega
theorem isDec_len {l m : List UInt8} {z : Int} (h : IsDec l z) (k : IsDec m z) (hk : m.head? ≠ some 48) : m.length ≤ l.length := by
  have h1 := isDec_low k hk
  have h2 := (decI_range h.1).2
  rw [h.2.1] at h2
  by_cases e : m.length ≤ l.length
  · exact e
  · have := ten_mono (m := l.length) (n := m.length - 1) (by omega)
    omega
theorem isDec_unique {l m : List UInt8} {z : Int} (h : IsDec l z) (k : IsDec m z) : l = m := by
  by_cases hl : l.head? = some 48
  · have e := h.2.2.2 hl
    by_cases hm : m.head? = some 48
    · rw [e, k.2.2.2 hm]
    · have h1 := isDec_low k hm
      have h2 := h.2.1
      rw [e] at h2
      have h3 : decI [48] = 0 := rfl
      have := t_pos (m.length - 1)
      omega
  · by_cases hm : m.head? = some 48
    · have e := k.2.2.2 hm
      have h1 := isDec_low h hl
      have h2 := k.2.1
      rw [e] at h2
      have h3 : decI [48] = 0 := rfl
      have := t_pos (l.length - 1)
      omega
    · have h1 := isDec_len h k hm
      have h2 := isDec_len k h hl
      exact dec_same h.1 k.1 (by omega) (by rw [h.2.1, k.2.1])
theorem isRoot_unique {A s t : Int} (h : IsRoot A s) (k : IsRoot A t) : s = t := by
  obtain ⟨h0, h1, h2⟩ := h
  obtain ⟨k0, k1, k2⟩ := k
  rcases Int.lt_trichotomy s t with q | q | q
  · have : (s + 1) * (s + 1) ≤ t * t := Int.mul_le_mul (by omega) (by omega) (by omega) (by omega)
    omega
  · exact q
  · have : (t + 1) * (t + 1) ≤ s * s := Int.mul_le_mul (by omega) (by omega) (by omega) (by omega)
    omega
theorem halved_unique {z : Int} {m n : Nat} (h : Halved z m) (k : Halved z n) : m = n := by
  have key : ∀ (m n a b : Nat), m < n → (2 : Int) ^ m * (2 * a + 1) = 2 ^ n * (2 * b + 1) → False := fun m n a b hmn e => by
    obtain ⟨d, rfl⟩ : ∃ d, n = m + d + 1 := ⟨n - m - 1, by omega⟩
    rw [show m + d + 1 = m + (d + 1) from rfl, Int.pow_add, Int.mul_assoc] at e
    have hp : (2 : Int) ^ m ≠ 0 := by have : (0 : Int) < 2 ^ m := Int.pow_pos (by decide); omega
    have e2 := Int.eq_of_mul_eq_mul_left hp e
    rw [Int.pow_succ, Int.mul_comm (2 ^ d) 2, Int.mul_assoc] at e2
    omega
  have pos : ∀ (n a : Nat), (2 : Int) ^ n * (2 * a + 1) ≠ 0 := fun n a e => by
    have : (0 : Int) < 2 ^ n * (2 * a + 1) := Int.mul_pos (Int.pow_pos (by decide)) (by omega)
    omega
  rcases h with ⟨h1, h2⟩ | ⟨a, h1⟩
  · rcases k with ⟨k1, k2⟩ | ⟨b, k1⟩
    · omega
    · exact absurd (k1.symm.trans h1) (pos n b)
  · rcases k with ⟨k1, k2⟩ | ⟨b, k1⟩
    · exact absurd (h1.symm.trans k1) (pos m a)
    · rcases Nat.lt_trichotomy m n with q | q | q
      · exact (key m n a b q (h1.symm.trans k1)).elim
      · exact q
      · exact (key n m b a q (k1.symm.trans h1)).elim
theorem two_words (x y : Int) (hx : 0 ≤ x ∧ x ≤ 4294967295) (hy : 0 ≤ y ∧ y ≤ 4294967295) (w : World) : WList (w.alloc (.cells #[.int .u32 x, .int .u32 y] 90)) (.slice (some ⟨w.heap.size, 0, none⟩) 2 2) [x, y] :=
  (own_words2 x y w w.heap.size (Nat.le_refl _)).wlist (by intro z hz; simp at hz; omega) (by simp)
theorem one_word_at (x : Int) (hx : 0 ≤ x ∧ x ≤ 4294967295) (w : World) : WList (w.alloc (.cells #[.int .u32 x] 90)) (.slice (some ⟨w.heap.size, 0, none⟩) 1 1) [x] :=
  ⟨⟨_, 1, rfl, by simp, .inr ⟨w.heap.size, 0, rfl, by simp, fun i hi => by simp at hi; subst hi; simp [go_sem]⟩⟩, by intro z hz; simp at hz; omega, by simp⟩
def big : List Int := [0, 1]
theorem big_wd : Wd big := by intro z hz; simp [big] at hz; omega
theorem big_tidy : Tidy big := .inr (by decide)
theorem big_val : wv big = 4294967296 := by decide
def bigBytes : List UInt8 := [52, 50, 57, 52, 57, 54, 55, 50, 57, 54]
theorem big_dec : IsDec bigBytes 4294967296 := ⟨by decide, by decide, by decide, by decide⟩
theorem big_readable : readable bigBytes = true := by decide
theorem big_dec2 : decI bigBytes = 4294967296 := by decide
theorem big_root : IsRoot 4294967296 65536 := by unfold IsRoot; decide
theorem big_halved : Halved 4294967296 32 := .inr ⟨0, by decide⟩
theorem big_bits : bitsZ 4294967296 = 33 := by decide
end Go.Proofs.YtdnbjaeeebodkaaGreat
