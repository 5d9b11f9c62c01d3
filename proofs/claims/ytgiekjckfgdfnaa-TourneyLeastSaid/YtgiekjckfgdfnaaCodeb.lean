/- Bytes of the call's own; the program's encoders. -/
import Derived.Lib.ItoaNum
import Derived.Test.YtgiekjckfgdfnaaFlof
import Derived.OwnWalk
import Derived.Deep.AppendLies
import Derived.Deep.RegionLawGrows
namespace Go.Proofs.Ytgiekjckfgdfnaa
set_option maxRecDepth 100000
set_option linter.unusedVariables false
def Bt (l : List Int) : Prop := ∀ x ∈ l, 0 ≤ x ∧ x ≤ 255
theorem bt_nil : Bt [] := fun _ h => by cases h
theorem Bt.append {a b : List Int} (h : Bt a) (k : Bt b) : Bt (a ++ b) := fun x hx => by
  rcases List.mem_append.1 hx with h' | h'
  · exact h x h'
  · exact k x h'
theorem Bt.cons {c : Int} {l : List Int} (h0 : 0 ≤ c) (h1 : c ≤ 255) (h : Bt l) : Bt (c :: l) := fun x hx => by
  rcases List.mem_cons.1 hx with rfl | h'
  · exact ⟨h0, h1⟩
  · exact h x h'
theorem Bt.head {c : Int} {l : List Int} (h : Bt (c :: l)) : 0 ≤ c ∧ c ≤ 255 := h c (by simp)
theorem Bt.tail {c : Int} {l : List Int} (h : Bt (c :: l)) : Bt l := fun x hx => h x (by simp [hx])
theorem Bt.tl {l : List Int} (h : Bt l) : Bt l.tail := fun x hx => h x (List.mem_of_mem_tail hx)
theorem Bt.drop {l : List Int} (h : Bt l) (n : Nat) : Bt (l.drop n) := fun x hx => h x (List.mem_of_mem_drop hx)
theorem Bt.getD {l : List Int} (h : Bt l) {d : Int} (d0 : 0 ≤ d) (d1 : d ≤ 255) (i : Nat) : 0 ≤ l.getD i d ∧ l.getD i d ≤ 255 := by
  by_cases hi : i < l.length
  · rw [List.getD, List.getElem?_eq_getElem hi]; exact h _ (List.getElem_mem hi)
  · rw [List.getD, List.getElem?_eq_none (by omega)]; exact ⟨d0, d1⟩
theorem p256_pos (n : Nat) : 0 < 256 ^ n := Nat.pow_pos (by decide)
/-- The n lowest bytes of x, the highest of them first. -/
def bigN (x : Nat) : Nat → List Int
  | 0 => []
  | n + 1 => ((x / 256 ^ n % 256 : Nat) : Int) :: bigN x n
theorem bigN_len (x : Nat) : ∀ n, (bigN x n).length = n
  | 0 => rfl
  | n + 1 => by simp [bigN, bigN_len x n]
theorem bigN_bt (x : Nat) : ∀ n, Bt (bigN x n)
  | 0 => bt_nil
  | n + 1 => Bt.cons (by omega) (by omega) (bigN_bt x n)
theorem bigN_getD (x : Nat) : ∀ n i, i < n → (bigN x n).getD i 0 = ((x / 256 ^ (n - 1 - i) % 256 : Nat) : Int)
  | 0, i, h => by omega
  | n + 1, 0, _ => by simp [bigN]
  | n + 1, i + 1, h => by
    rw [bigN, List.getD_cons_succ, bigN_getD x n i (by omega)]
    have : n + 1 - 1 - (i + 1) = n - 1 - i := by omega
    rw [this]
theorem bigN_take (x n i : Nat) (h : i < n) : (bigN x n).take (i + 1) = (bigN x n).take i ++ [((x / 256 ^ (n - 1 - i) % 256 : Nat) : Int)] := by
  have hl : i < (bigN x n).length := by rw [bigN_len]; exact h
  have := bigN_getD x n i h
  rw [List.getD, List.getElem?_eq_getElem hl] at this
  have e : (bigN x n)[i] = ((x / 256 ^ (n - 1 - i) % 256 : Nat) : Int) := this
  rw [List.take_succ_eq_append_getElem hl, e]
theorem bigN_mod (x m : Nat) : ∀ n, n ≤ m → bigN (x % 256 ^ m) n = bigN x n
  | 0, _ => rfl
  | n + 1, h => by
    rw [bigN, bigN, bigN_mod x m n (by omega)]
    have e : 256 ^ m = 256 ^ n * (256 * 256 ^ (m - 1 - n)) := by
      rw [show m = n + (1 + (m - 1 - n)) by omega, Nat.pow_add, Nat.pow_add]
      have : n + (1 + (m - 1 - n)) - 1 - n = m - 1 - n := by omega
      rw [this]
    rw [e, Nat.mod_mul_right_div_self, Nat.mod_mul_right_mod]
/-- How many bytes a number needs. -/
def bytesN (x : Nat) : Nat := (Lib.bitLen x + 7) / 8
theorem pow_8 (n : Nat) : 256 ^ n = 2 ^ (8 * n) := by rw [show (256 : Nat) = 2 ^ 8 by decide, ← Nat.pow_mul]
def IsLen (x n : Nat) : Prop := x < 256 ^ n ∧ (n = 0 ∨ 256 ^ (n - 1) ≤ x)
theorem IsLen.unique {x n m : Nat} (h : IsLen x n) (k : IsLen x m) : n = m := by
  have key : ∀ {n m : Nat}, IsLen x n → IsLen x m → ¬ n < m := by
    intro n m h k hlt
    rcases k.2 with h0 | h0
    · omega
    · have : 256 ^ n ≤ 256 ^ (m - 1) := Nat.pow_le_pow_right (by decide) (by omega)
      have := h.1
      omega
  have := key h k
  have := key k h
  omega
theorem bytesN_is (x : Nat) (h : x < 18446744073709551616) : IsLen x (bytesN x) := by
  by_cases h0 : x = 0
  · subst h0; unfold IsLen bytesN; decide
  · obtain ⟨b1, b2, b3⟩ := Lib.bitLenAux_bounds 64 x h h0
    have e : Lib.bitLen x = Lib.bitLenAux 64 x := rfl
    unfold IsLen bytesN
    rw [e]
    generalize Lib.bitLenAux 64 x = b at b1 b2 b3
    refine ⟨?_, .inr ?_⟩
    · rw [pow_8]; exact Nat.lt_of_lt_of_le b3 (Nat.pow_le_pow_right (by decide) (by omega))
    · rw [pow_8]; exact Nat.le_trans (Nat.pow_le_pow_right (by decide) (by omega)) b2
theorem bytesN_le (x : Nat) (h : x < 18446744073709551616) : bytesN x ≤ 8 := by
  have := Lib.bitLen_le x 64 (by decide) h
  unfold bytesN; omega
theorem bytesN_small {x n : Nat} (h : x < 256 ^ n) (hn : n ≤ 8) : bytesN x ≤ n := by
  have h8 : (256 : Nat) ^ n ≤ 256 ^ 8 := Nat.pow_le_pow_right (by decide) hn
  have hx : x < 18446744073709551616 := Nat.lt_of_lt_of_le h h8
  have k := bytesN_is x hx
  apply Classical.byContradiction
  intro hh
  rcases k.2 with h0 | h0
  · omega
  · have : 256 ^ n ≤ 256 ^ (bytesN x - 1) := Nat.pow_le_pow_right (by decide) (by omega)
    omega
/-- The encodings. -/
def encU (x : Nat) : List Int := (bytesN x : Int) :: bigN x (bytesN x)
def encI (x : Int) : List Int := if 0 ≤ x then (9 + bytesN x.toNat : Int) :: bigN x.toNat (bytesN x.toNat) else (8 - bytesN (-1 - x).toNat : Int) :: bigN (x % 18446744073709551616).toNat (bytesN (-1 - x).toNat)
def encF (k : Nat) : List Int := bigN k 8
def pieT (c : Int) : List Int := if c = 0 then [0, 1] else [c]
def encP (s : List Int) : List Int := s.flatMap pieT
def encT (s : List Int) : List Int := encP s ++ [0, 0]
theorem encP_cons (c : Int) (s : List Int) : encP (c :: s) = pieT c ++ encP s := by simp [encP]
theorem encP_more (s t : List Int) : encP (s ++ t) = encP s ++ encP t := by simp [encP]
theorem encP_len : ∀ s, (encP s).length ≤ 2 * s.length
  | [] => by simp [encP]
  | c :: s => by
    have := encP_len s
    rw [encP_cons, List.length_append]
    unfold pieT; split <;> simp <;> omega
theorem encP_bt : ∀ {s}, Bt s → Bt (encP s)
  | [], _ => bt_nil
  | c :: s, h => by
    rw [encP_cons]
    refine Bt.append ?_ (encP_bt h.tail)
    unfold pieT
    split
    · exact Bt.cons (by decide) (by decide) (Bt.cons (by decide) (by decide) bt_nil)
    · exact Bt.cons h.head.1 h.head.2 bt_nil
theorem encT_bt {s : List Int} (h : Bt s) : Bt (encT s) := (encP_bt h).append (Bt.cons (by decide) (by decide) (Bt.cons (by decide) (by decide) bt_nil))
theorem encU_bt {x : Nat} (h : x < 18446744073709551616) : Bt (encU x) := Bt.cons (by omega) (by have := bytesN_le x h; omega) (bigN_bt _ _)
theorem encU_len {x : Nat} (h : x < 18446744073709551616) : (encU x).length = bytesN x + 1 ∧ (encU x).length ≤ 9 := by
  have := bytesN_le x h
  simp [encU, bigN_len]; omega
def headI (x : Int) : Nat := if 0 ≤ x then x.toNat else (-1 - x).toNat
theorem headI_lt {x : Int} (h0 : -9223372036854775808 ≤ x) (h1 : x ≤ 9223372036854775807) : headI x < 9223372036854775808 := by unfold headI; split <;> omega
theorem encI_bt {x : Int} (h0 : -9223372036854775808 ≤ x) (h1 : x ≤ 9223372036854775807) : Bt (encI x) := by
  have h := headI_lt h0 h1
  unfold headI at h
  unfold encI
  split at h
  · rename_i hx
    have := bytesN_le x.toNat (by omega)
    rw [if_pos hx]; exact Bt.cons (by omega) (by omega) (bigN_bt _ _)
  · rename_i hx
    have := bytesN_le (-1 - x).toNat (by omega)
    rw [if_neg hx]; exact Bt.cons (by omega) (by omega) (bigN_bt _ _)
theorem encI_len {x : Int} (h0 : -9223372036854775808 ≤ x) (h1 : x ≤ 9223372036854775807) : (encI x).length = bytesN (headI x) + 1 ∧ (encI x).length ≤ 9 := by
  have h := headI_lt h0 h1
  have := bytesN_le (headI x) (by omega)
  unfold encI headI at *
  split
  · rename_i hx; rw [if_pos hx] at this; simp [bigN_len]; omega
  · rename_i hx; rw [if_neg hx] at this; simp [bigN_len]; omega
/-- The order of byte strings. -/
def lessL : List Int → List Int → Bool
  | _, [] => false
  | [], _ :: _ => true
  | a :: x, b :: y => if a < b then true else if b < a then false else lessL x y
theorem lessL_same (a : Int) (x y : List Int) : lessL (a :: x) (a :: y) = lessL x y := by simp [lessL]
theorem lessL_lt {a b : Int} (h : a < b) (x y : List Int) : lessL (a :: x) (b :: y) = true := by simp [lessL, h]
theorem lessL_gt {a b : Int} (h : b < a) (x y : List Int) : lessL (a :: x) (b :: y) = false := by
  unfold lessL; rw [if_neg (by omega), if_pos h]
theorem lessL_refl : ∀ a, lessL a a = false
  | [] => rfl
  | a :: x => by rw [lessL_same, lessL_refl x]
theorem mod_split (x n : Nat) : x % 256 ^ (n + 1) = x / 256 ^ n % 256 * 256 ^ n + x % 256 ^ n := by
  rw [Nat.pow_succ, Nat.mod_mul]; rw [Nat.mul_comm (256 ^ n)]; omega
theorem lessL_big (x y : Nat) : ∀ n, lessL (bigN x n) (bigN y n) = decide (x % 256 ^ n < y % 256 ^ n)
  | 0 => by simp [bigN, lessL, Nat.mod_one]
  | n + 1 => by
    have hx := Nat.mod_lt x (p256_pos n)
    have hy := Nat.mod_lt y (p256_pos n)
    rw [bigN, bigN, mod_split, mod_split]
    generalize x / 256 ^ n % 256 = a
    generalize y / 256 ^ n % 256 = b
    rcases Nat.lt_trichotomy a b with h | h | h
    · rw [lessL_lt (by omega)]
      have : (a + 1) * 256 ^ n ≤ b * 256 ^ n := Nat.mul_le_mul_right _ h
      rw [Nat.add_mul] at this
      symm; rw [decide_eq_true_iff]; omega
    · subst h
      rw [lessL_same, lessL_big x y n, decide_eq_decide]; omega
    · rw [lessL_gt (by omega)]
      have : (b + 1) * 256 ^ n ≤ a * 256 ^ n := Nat.mul_le_mul_right _ h
      rw [Nat.add_mul] at this
      symm; rw [decide_eq_false_iff_not]; omega
theorem len_lt {x y n m : Nat} (h : IsLen x n) (k : IsLen y m) (hl : n < m) : x < y := by
  rcases k.2 with h0 | h0
  · omega
  · have : 256 ^ n ≤ 256 ^ (m - 1) := Nat.pow_le_pow_right (by decide) (by omega)
    have := h.1
    omega
theorem less_U {x y : Nat} (hx : x < 18446744073709551616) (hy : y < 18446744073709551616) : lessL (encU x) (encU y) = decide (x < y) := by
  have ix := bytesN_is x hx
  have iy := bytesN_is y hy
  unfold encU
  generalize bytesN x = n at *
  generalize bytesN y = m at *
  rcases Nat.lt_trichotomy n m with h | h | h
  · rw [lessL_lt (by omega)]; symm; rw [decide_eq_true_iff]; exact len_lt ix iy h
  · subst h
    rw [lessL_same, lessL_big, Nat.mod_eq_of_lt ix.1, Nat.mod_eq_of_lt iy.1]
  · rw [lessL_gt (by omega)]; symm; rw [decide_eq_false_iff_not]; have := len_lt iy ix h; omega
theorem neg_low {x : Int} {n : Nat} (hn : n ≤ 8) (h0 : x < 0) (h : (-1 - x).toNat < 256 ^ n) : (((x % 18446744073709551616).toNat % 256 ^ n : Nat) : Int) = x + (256 ^ n : Nat) ∧ 0 ≤ x + (256 ^ n : Nat) := by
  have e : (18446744073709551616 : Int) = (256 ^ n : Nat) * (256 ^ (8 - n) : Nat) := by
    rw [← Int.natCast_mul, ← Nat.pow_add, show n + (8 - n) = 8 by omega]; rfl
  have h2 : 0 ≤ x % 18446744073709551616 := Int.emod_nonneg _ (by decide)
  have e2 : (((x % 18446744073709551616).toNat % 256 ^ n : Nat) : Int) = x % (256 ^ n : Nat) := by
    rw [Int.natCast_emod, Int.toNat_of_nonneg h2, e, Int.emod_emod_of_dvd _ (Int.dvd_mul_right _ _)]
  have e3 : x % (256 ^ n : Nat) = x + (256 ^ n : Nat) := by
    rw [← Int.add_emod_right, Int.emod_eq_of_lt (by omega) (by omega)]
  refine ⟨e2.trans e3, by omega⟩
theorem less_I {x y : Int} (hx0 : -9223372036854775808 ≤ x) (hx1 : x ≤ 9223372036854775807) (hy0 : -9223372036854775808 ≤ y) (hy1 : y ≤ 9223372036854775807) : lessL (encI x) (encI y) = decide (x < y) := by
  unfold encI
  by_cases hx : 0 ≤ x <;> by_cases hy : 0 ≤ y
  · rw [if_pos hx, if_pos hy]
    have ix := bytesN_is x.toNat (by omega)
    have iy := bytesN_is y.toNat (by omega)
    generalize bytesN x.toNat = n at *
    generalize bytesN y.toNat = m at *
    rcases Nat.lt_trichotomy n m with h | h | h
    · rw [lessL_lt (by omega)]; symm; rw [decide_eq_true_iff]; have := len_lt ix iy h; omega
    · subst h
      rw [lessL_same, lessL_big, Nat.mod_eq_of_lt ix.1, Nat.mod_eq_of_lt iy.1, decide_eq_decide]; omega
    · rw [lessL_gt (by omega)]; symm; rw [decide_eq_false_iff_not]; have := len_lt iy ix h; omega
  · rw [if_pos hx, if_neg hy, lessL_gt (by omega)]; symm; rw [decide_eq_false_iff_not]; omega
  · rw [if_neg hx, if_pos hy, lessL_lt (by omega)]; symm; rw [decide_eq_true_iff]; omega
  · rw [if_neg hx, if_neg hy]
    have ix := bytesN_is (-1 - x).toNat (by omega)
    have iy := bytesN_is (-1 - y).toNat (by omega)
    have lx := bytesN_le (-1 - x).toNat (by omega)
    have ly := bytesN_le (-1 - y).toNat (by omega)
    generalize bytesN (-1 - x).toNat = n at *
    generalize bytesN (-1 - y).toNat = m at *
    rcases Nat.lt_trichotomy n m with h | h | h
    · rw [lessL_gt (by omega)]; symm; rw [decide_eq_false_iff_not]; have := len_lt ix iy h; omega
    · subst h
      have e1 := neg_low lx (by omega) ix.1
      have e2 := neg_low ly (by omega) iy.1
      rw [lessL_same, lessL_big, decide_eq_decide]; omega
    · rw [lessL_lt (by omega)]; symm; rw [decide_eq_true_iff]; have := len_lt iy ix h; omega
theorem less_F {x y : Nat} (hx : x < 18446744073709551616) (hy : y < 18446744073709551616) : lessL (encF x) (encF y) = decide (x < y) := by
  unfold encF
  rw [lessL_big, show (256 : Nat) ^ 8 = 18446744073709551616 by decide, Nat.mod_eq_of_lt hx, Nat.mod_eq_of_lt hy]
theorem encT_cons (c : Int) (s : List Int) : encT (c :: s) = pieT c ++ encT s := by unfold encT; rw [encP_cons, List.append_assoc]
theorem less_T : ∀ {s t : List Int}, Bt s → Bt t → lessL (encT s) (encT t) = lessL s t
  | [], [], _, _ => rfl
  | [], c :: t, _, h => by
    rw [encT_cons]; unfold pieT
    have := h.head
    split
    · rfl
    · show lessL [0, 0] (c :: encT t) = true
      exact lessL_lt (by omega) _ _
  | c :: s, [], h, _ => by
    rw [encT_cons]; unfold pieT
    have := h.head
    split
    · rfl
    · show lessL (c :: encT s) [0, 0] = false
      exact lessL_gt (by omega) _ _
  | c :: s, d :: t, h, k => by
    rw [encT_cons, encT_cons]
    have hc := h.head
    have hd := k.head
    have ih := less_T h.tail k.tail
    unfold pieT
    by_cases c0 : c = 0 <;> by_cases d0 : d = 0
    · rw [if_pos c0, if_pos d0, c0, d0]
      simp only [List.cons_append, List.nil_append, lessL_same, ih]
    · rw [if_pos c0, if_neg d0]
      simp only [List.cons_append, List.nil_append]
      rw [lessL_lt (by omega), lessL_lt (by omega)]
    · rw [if_neg c0, if_pos d0]
      simp only [List.cons_append, List.nil_append]
      rw [lessL_gt (by omega), lessL_gt (by omega)]
    · rw [if_neg c0, if_neg d0]
      simp only [List.cons_append, List.nil_append]
      unfold lessL
      rw [ih]
/-- The number of n bytes that begins with these, filled up with f. -/
def fillN (t : List Int) (f : Int) : Nat → Int
  | 0 => 0
  | n + 1 => fillN t f n * 256 + t.getD n f
theorem p256 (n : Nat) : (0 : Int) < 256 ^ n := Int.pow_pos (by decide)
theorem fill_range {t : List Int} (h : Bt t) {f : Int} (f0 : 0 ≤ f) (f1 : f ≤ 255) : ∀ n, 0 ≤ fillN t f n ∧ fillN t f n < 256 ^ n
  | 0 => by simp [fillN]
  | n + 1 => by
    have ih := fill_range h f0 f1 n
    have := h.getD f0 f1 n
    rw [fillN, Int.pow_succ]; omega
theorem fill_head (t : List Int) (f : Int) : ∀ n, fillN t f (n + 1) = t.getD 0 f * 256 ^ n + fillN t.tail f n
  | 0 => by simp [fillN]
  | n + 1 => by
    have e : t.getD (n + 1) f = t.tail.getD n f := by cases t <;> simp
    rw [fillN, fill_head t f n, fillN, Int.pow_succ, Int.add_mul, e, Int.mul_assoc]; omega
theorem fill_full {t : List Int} (f : Int) : ∀ n, n ≤ t.length → fillN t f n = fillN t 0 n
  | 0, _ => rfl
  | n + 1, h => by
    rw [fillN, fillN, fill_full f n (by omega)]
    simp [List.getD, List.getElem?_eq_getElem (show n < t.length by omega)]
theorem fill_le {t : List Int} (h : Bt t) : ∀ n, fillN t 0 n ≤ fillN t 255 n
  | 0 => by simp [fillN]
  | n + 1 => by
    have := fill_le h n
    have : t.getD n 0 ≤ t.getD n 255 := by
      by_cases hn : n < t.length
      · simp [List.getD, List.getElem?_eq_getElem hn]
      · simp [List.getD, List.getElem?_eq_none (Nat.le_of_not_lt hn)]
    rw [fillN, fillN]; omega
theorem fill_big (x : Nat) (more : List Int) (f : Int) : ∀ n, fillN (bigN x n ++ more) f n = ((x % 256 ^ n : Nat) : Int)
  | 0 => by simp [fillN, Nat.mod_one]
  | n + 1 => by
    rw [fill_head, bigN]
    simp only [List.cons_append, List.getD_cons_zero, List.tail_cons]
    rw [fill_big x more f n, mod_split]
    simp
theorem fill_more (t more : List Int) (f : Int) : ∀ n, n ≤ t.length → fillN (t ++ more) f n = fillN t f n
  | 0, _ => rfl
  | n + 1, h => by
    rw [fillN, fillN, fill_more t more f n (by omega)]
    simp [List.getD, List.getElem?_append_left (show n < t.length by omega)]
/-- What decoding finds: the value, the length and the error. -/
def getU : List Int → Int × Nat × Nat
  | [] => (0, 0, 5)
  | h :: t => if 8 < h ∨ (0 < h ∧ t.getD 0 1 = 0) then (0, 0, 6) else if t.length < h.toNat then (0, 0, 5) else (fillN t 0 h.toNat, h.toNat + 1, 0)
theorem getU_cons (h : Int) (t : List Int) : getU (h :: t) = if 8 < h ∨ (0 < h ∧ t.getD 0 1 = 0) then (0, 0, 6) else if t.length < h.toNat then (0, 0, 5) else (fillN t 0 h.toNat, h.toNat + 1, 0) := rfl
theorem getU_enc {x : Nat} (hx : x < 18446744073709551616) (more : List Int) : getU (encU x ++ more) = ((x : Int), (encU x).length, 0) := by
  have ix := bytesN_is x hx
  have hl := bytesN_le x hx
  have e := (encU_len hx).1
  rw [e]
  unfold encU
  generalize bytesN x = n at *
  rw [List.cons_append, getU_cons]
  have hlen : (bigN x n ++ more).length = n + more.length := by rw [List.length_append, bigN_len]
  have hz : ¬ (8 < (n : Int) ∨ (0 < (n : Int) ∧ (bigN x n ++ more).getD 0 1 = 0)) := by
    rintro (h | ⟨h1, h2⟩)
    · omega
    · obtain ⟨m, rfl⟩ := Nat.exists_eq_succ_of_ne_zero (show n ≠ 0 by omega)
      rw [bigN, List.cons_append, List.getD_cons_zero] at h2
      rcases ix.2 with h0 | h0
      · omega
      · have := ix.1
        simp only [Nat.succ_eq_add_one, Nat.add_sub_cancel] at h0 this
        have h3 : x / 256 ^ m < 256 := by rw [Nat.div_lt_iff_lt_mul (p256_pos m)]; rw [Nat.pow_succ] at this; omega
        have h4 : 0 < x / 256 ^ m := Nat.div_pos h0 (p256_pos m)
        omega
  rw [if_neg hz, if_neg (by rw [hlen]; simp), show ((n : Int)).toNat = n by omega, fill_big, Nat.mod_eq_of_lt ix.1]
def badI (h : Int) (t : List Int) (n : Nat) : Prop := 8 < n ∨ (0 < n ∧ 0 < t.length ∧ (if h < 9 then t.getD 0 0 = 255 ∨ (n = 8 ∧ t.getD 0 0 < 128) else t.getD 0 0 = 0 ∨ (n = 8 ∧ 127 < t.getD 0 0)))
instance (h : Int) (t : List Int) (n : Nat) : Decidable (badI h t n) := by unfold badI; infer_instance
def sizeI (h : Int) : Nat := if h < 9 then (8 - h).toNat else (h - 9).toNat
def getI : List Int → Int × Nat × Nat
  | [] => (0, 0, 5)
  | h :: t => if badI h t (sizeI h) then (0, 0, 6) else if t.length < sizeI h then (0, 0, 5) else (if h < 9 then fillN t 0 (sizeI h) - 256 ^ sizeI h else fillN t 0 (sizeI h), sizeI h + 1, 0)
theorem getI_cons (h : Int) (t : List Int) : getI (h :: t) = if badI h t (sizeI h) then (0, 0, 6) else if t.length < sizeI h then (0, 0, 5) else (if h < 9 then fillN t 0 (sizeI h) - 256 ^ sizeI h else fillN t 0 (sizeI h), sizeI h + 1, 0) := rfl
theorem top_div {x m : Nat} (h : x < 256 ^ (m + 1)) : x / 256 ^ m < 256 := by
  rw [Nat.div_lt_iff_lt_mul (p256_pos m)]; rw [Nat.pow_succ] at h; omega
theorem getI_enc {x : Int} (h0 : -9223372036854775808 ≤ x) (h1 : x ≤ 9223372036854775807) (more : List Int) : getI (encI x ++ more) = (x, (encI x).length, 0) := by
  have e := (encI_len h0 h1).1
  have hh := headI_lt h0 h1
  have ix := bytesN_is (headI x) (by omega)
  have hl := bytesN_le (headI x) (by omega)
  rw [e]
  unfold encI
  unfold headI at *
  by_cases hx : 0 ≤ x
  · rw [if_pos hx] at *
    rw [if_pos hx]
    obtain ⟨X, rfl⟩ := Int.eq_ofNat_of_zero_le hx
    simp only [Int.toNat_natCast] at *
    generalize bytesN X = n at *
    rw [List.cons_append, getI_cons]
    have hs : sizeI (9 + (n : Int)) = n := by unfold sizeI; rw [if_neg (by omega)]; omega
    have hlen : (bigN X n ++ more).length = n + more.length := by rw [List.length_append, bigN_len]
    have hz : ¬ badI (9 + (n : Int)) (bigN X n ++ more) n := by
      rintro (h | ⟨p1, p2, p3⟩)
      · omega
      · rw [if_neg (by omega)] at p3
        obtain ⟨m, rfl⟩ := Nat.exists_eq_succ_of_ne_zero (show n ≠ 0 by omega)
        simp only [Nat.succ_eq_add_one] at *
        rw [bigN, List.cons_append, List.getD_cons_zero] at p3
        have t1 := top_div ix.1
        rcases ix.2 with q | q
        · omega
        · simp only [Nat.add_sub_cancel] at q
          have h4 : 0 < X / 256 ^ m := Nat.div_pos q (p256_pos m)
          rcases p3 with p | ⟨p, p'⟩
          · omega
          · obtain rfl : m = 7 := by omega
            have : X / 256 ^ 7 < 128 := by rw [Nat.div_lt_iff_lt_mul (p256_pos 7)]; exact hh
            omega
    rw [hs, if_neg hz, if_neg (by rw [hlen]; simp), if_neg (by omega), fill_big, Nat.mod_eq_of_lt ix.1]
  · rw [if_neg hx] at *
    rw [if_neg hx]
    generalize hn : bytesN (-1 - x).toNat = n at *
    have hlow := neg_low hl (by omega) ix.1
    rw [List.cons_append, getI_cons]
    have hs : sizeI (8 - (n : Int)) = n := by unfold sizeI; rw [if_pos (by omega)]; omega
    generalize (x % 18446744073709551616).toNat = X at *
    have hlen : (bigN X n ++ more).length = n + more.length := by rw [List.length_append, bigN_len]
    have hz : ¬ badI (8 - (n : Int)) (bigN X n ++ more) n := by
      rintro (h | ⟨p1, p2, p3⟩)
      · omega
      · rw [if_pos (by omega)] at p3
        obtain ⟨m, rfl⟩ := Nat.exists_eq_succ_of_ne_zero (show n ≠ 0 by omega)
        simp only [Nat.succ_eq_add_one] at *
        rw [bigN, List.cons_append, List.getD_cons_zero] at p3
        have hpos := p256_pos m
        have hm := Nat.mod_lt X hpos
        have hsp := mod_split X m
        have hr : X / 256 ^ m % 256 < 256 := Nat.mod_lt _ (by decide)
        have hpw : 256 ^ (m + 1) = 256 ^ m * 256 := Nat.pow_succ ..
        rcases ix.2 with q | q
        · omega
        · simp only [Nat.add_sub_cancel] at q
          rcases p3 with p | ⟨p, p'⟩
          · rw [show X / 256 ^ m % 256 = 255 by omega] at hsp
            omega
          · obtain rfl : m = 7 := by omega
            have : X / 256 ^ 7 % 256 * 256 ^ 7 ≤ 127 * 256 ^ 7 := Nat.mul_le_mul_right _ (by omega)
            omega
    rw [hs, if_neg hz, if_neg (by rw [hlen]; simp), if_pos (by omega), fill_big, hlow.1]
    congr 1
    simp
def Keyed (k : Int) : Prop := k = 18446744073709551615 ∨ (4503599627370495 ≤ k ∧ k ≤ 18442240474082181120)
instance (k : Int) : Decidable (Keyed k) := by unfold Keyed; infer_instance
def getF (b : List Int) : Int × Nat :=
  if 8 ≤ b.length then (if Keyed (fillN b 0 8) then (fillN b 0 8, 0) else (0, 6))
  else if Keyed (fillN b 0 8) ∨ Keyed (fillN b 255 8) ∨ (fillN b 0 8 < 9223372036854775808 ∧ 9223372036854775808 ≤ fillN b 255 8) then (0, 5) else (0, 6)
theorem getF_enc {k : Nat} (hk : k < 18446744073709551616) (h : Keyed k) (more : List Int) : getF (encF k ++ more) = ((k : Int), 0) := by
  unfold getF encF
  rw [if_pos (by rw [List.length_append, bigN_len]; omega), fill_big, Nat.mod_eq_of_lt (by exact hk), if_pos h]
/-- A span of numbers meets another one. -/
def meetB (lo hi first last : Int) : Bool := decide (lo ≤ last) && decide (first ≤ hi)
/-- What the program's number finds, of one span or of two. -/
def num1 (b : List Int) (n : Nat) (first last : Int) : Int × Nat :=
  if meetB (fillN b 0 n) (fillN b 255 n) first last then (if b.length < n then (0, 5) else (fillN b 0 n, 0)) else (0, 6)
def num2 (b : List Int) (n : Nat) (f1 l1 f2 l2 : Int) : Int × Nat :=
  if meetB (fillN b 0 n) (fillN b 255 n) f1 l1 || meetB (fillN b 0 n) (fillN b 255 n) f2 l2 then (if b.length < n then (0, 5) else (fillN b 0 n, 0)) else (0, 6)
theorem getF_num {b : List Int} (h : Bt b) : num2 b 8 4503599627370495 18442240474082181120 18446744073709551615 18446744073709551615 = getF b := by
  have r0 := fill_range h (f := 0) (by decide) (by decide) 8
  have r1 := fill_range h (f := 255) (by decide) (by decide) 8
  have hle := fill_le h 8
  have hfull := fill_full (t := b) 255 8
  have e8 : (256 : Int) ^ 8 = 18446744073709551616 := by decide
  rw [e8] at r0 r1
  unfold num2 getF meetB
  generalize fillN b 0 8 = lo at *
  generalize fillN b 255 8 = hi at *
  by_cases hl : 8 ≤ b.length
  · have := hfull hl
    subst this
    rw [if_pos hl, if_neg (show ¬ b.length < 8 by omega)]
    simp only [Bool.or_eq_true, Bool.and_eq_true, decide_eq_true_eq]
    by_cases hk : Keyed hi
    all_goals (have hk' := hk; unfold Keyed at hk')
    · rw [if_pos hk, if_pos (by omega)]
    · rw [if_neg hk, if_neg (by omega)]
  · rw [if_neg hl, if_pos (show b.length < 8 by omega)]
    simp only [Bool.or_eq_true, Bool.and_eq_true, decide_eq_true_eq]
    have e1 : Keyed lo ↔ (lo = 18446744073709551615 ∨ (4503599627370495 ≤ lo ∧ lo ≤ 18442240474082181120)) := Iff.rfl
    have e2 : Keyed hi ↔ (hi = 18446744073709551615 ∨ (4503599627370495 ≤ hi ∧ hi ≤ 18442240474082181120)) := Iff.rfl
    split <;> split <;> rename_i p q <;> rw [e1, e2] at q <;> first | rfl | (exfalso; omega)
/-- The spans of so many bytes. -/
def grN (n : Nat) : Int := 256 ^ n - 1
def needF (n : Nat) : Int := if n = 0 then 0 else grN (n - 1) + 1
def needL (n : Nat) (most : Int) : Int := if n = 0 then 0 else min (grN n) most
theorem getU_num {h : Int} {t : List Int} (ht : Bt t) (h0 : 0 ≤ h) (h8 : h ≤ 8) :
    getU (h :: t) = (let r := num1 t h.toNat (needF h.toNat) (needL h.toNat 18446744073709551615); if r.2 = 0 then (r.1, 1 + h.toNat, 0) else (0, 0, r.2)) := by
  obtain ⟨n, rfl⟩ := Int.eq_ofNat_of_zero_le h0
  simp only [Int.toNat_natCast]
  unfold getU num1 meetB needF needL grN
  simp only [Int.toNat_natCast]
  cases n with
  | zero => simp [fillN]
  | succ m =>
    have r0 := fill_range ht (f := 0) (by decide) (by decide) (m + 1)
    have r1 := fill_range ht.tl (f := 255) (by decide) (by decide) m
    have hle : (256 : Int) ^ (m + 1) ≤ 256 ^ 8 := by
      have : 256 ^ (m + 1) ≤ 256 ^ 8 := Nat.pow_le_pow_right (by decide) (by omega)
      exact_mod_cast this
    have e8 : (256 : Int) ^ 8 = 18446744073709551616 := by decide
    have hh := fill_head t 255 m
    have hp := p256 m
    have hb := ht.getD (d := 255) (by decide) (by decide) 0
    have hz : t.getD 0 1 = 0 ↔ t.getD 0 255 = 0 := by cases t <;> simp
    have hcond : (fillN t 255 (m + 1) < 256 ^ m) ↔ t.getD 0 255 = 0 := by
      rw [hh]
      constructor
      · intro hc
        apply Classical.byContradiction
        intro hne
        have : 1 * (256 : Int) ^ m ≤ t.getD 0 255 * 256 ^ m := Int.mul_le_mul_of_nonneg_right (by omega) (by omega)
        omega
      · intro hc; rw [hc]; omega
    simp only [Nat.succ_ne_zero, if_false, Nat.add_sub_cancel]
    have hm : fillN t 0 (m + 1) ≤ min (256 ^ (m + 1) - 1) 18446744073709551615 := by omega
    by_cases hc : t.getD 0 255 = 0
    · have := hcond.2 hc
      rw [if_pos (.inr ⟨by omega, hz.2 hc⟩)]
      have e : (decide (fillN t 0 (m + 1) ≤ min (256 ^ (m + 1) - 1) 18446744073709551615) && decide (256 ^ m - 1 + 1 ≤ fillN t 255 (m + 1))) = false := by
        rw [Bool.and_eq_false_iff]; right; rw [decide_eq_false_iff_not]; omega
      rw [e]; simp
    · have : ¬ fillN t 255 (m + 1) < 256 ^ m := fun hh => hc (hcond.1 hh)
      rw [if_neg (by rw [hz]; omega)]
      have e : (decide (fillN t 0 (m + 1) ≤ min (256 ^ (m + 1) - 1) 18446744073709551615) && decide (256 ^ m - 1 + 1 ≤ fillN t 255 (m + 1))) = true := by
        rw [Bool.and_eq_true]; exact ⟨decide_eq_true hm, by rw [decide_eq_true_iff]; omega⟩
      rw [e]
      by_cases hl : t.length < m + 1
      · simp [hl]
      · simp [hl]; omega
theorem fill_nil0 : ∀ n, fillN [] 0 n = 0
  | 0 => rfl
  | n + 1 => by unfold fillN; rw [fill_nil0 n]; rfl
theorem fill_nil255 : ∀ n, fillN [] 255 n = 256 ^ n - 1
  | 0 => rfl
  | n + 1 => by unfold fillN; rw [fill_nil255 n, Int.pow_succ]; simp; omega
def spanI (h : Int) : Int × Int := if h < 9 then (grN (sizeI h) - needL (sizeI h) 9223372036854775807, grN (sizeI h) - needF (sizeI h)) else (needF (sizeI h), needL (sizeI h) 9223372036854775807)
theorem meet_pos {c r s : Int} {m : Nat} (hm : m ≤ 7) (c0 : 0 ≤ c) (c1 : c ≤ 255) (r0 : 0 ≤ r) (r1 : r < 256 ^ m) (s0 : 0 ≤ s) (s1 : s < 256 ^ m) :
    meetB (c * 256 ^ m + r) (c * 256 ^ m + s) (needF (m + 1)) (needL (m + 1) 9223372036854775807) = true ↔ ¬ (c = 0 ∨ (m + 1 = 8 ∧ 127 < c)) := by
  have h : m = 0 ∨ m = 1 ∨ m = 2 ∨ m = 3 ∨ m = 4 ∨ m = 5 ∨ m = 6 ∨ m = 7 := by omega
  rcases h with rfl | rfl | rfl | rfl | rfl | rfl | rfl | rfl <;> simp [meetB, needF, needL, grN] at * <;> omega
theorem meet_neg {c r s : Int} {m : Nat} (hm : m ≤ 7) (c0 : 0 ≤ c) (c1 : c ≤ 255) (r0 : 0 ≤ r) (r1 : r < 256 ^ m) (s0 : 0 ≤ s) (s1 : s < 256 ^ m) :
    meetB (c * 256 ^ m + r) (c * 256 ^ m + s) (grN (m + 1) - needL (m + 1) 9223372036854775807) (grN (m + 1) - needF (m + 1)) = true ↔ ¬ (c = 255 ∨ (m + 1 = 8 ∧ c < 128)) := by
  have h : m = 0 ∨ m = 1 ∨ m = 2 ∨ m = 3 ∨ m = 4 ∨ m = 5 ∨ m = 6 ∨ m = 7 := by omega
  rcases h with rfl | rfl | rfl | rfl | rfl | rfl | rfl | rfl <;> simp [meetB, needF, needL, grN] at * <;> omega
theorem meet_none {m : Nat} (hm : m ≤ 7) (h : Int) (hs : sizeI h = m + 1) : meetB 0 (256 ^ (m + 1) - 1) (spanI h).1 (spanI h).2 = true := by
  unfold spanI
  rw [hs]
  have h : m = 0 ∨ m = 1 ∨ m = 2 ∨ m = 3 ∨ m = 4 ∨ m = 5 ∨ m = 6 ∨ m = 7 := by omega
  split <;> rcases h with rfl | rfl | rfl | rfl | rfl | rfl | rfl | rfl <;> simp [meetB, needF, needL, grN] <;> omega
theorem getI_num {h : Int} {t : List Int} (ht : Bt t) (h0 : 0 ≤ h) (h17 : h ≤ 17) :
    getI (h :: t) = (let r := num1 t (sizeI h) (spanI h).1 (spanI h).2; if r.2 = 0 then (if h < 9 then r.1 - 256 ^ sizeI h else r.1, 1 + sizeI h, 0) else (0, 0, r.2)) := by
  rw [getI_cons]
  have hs : sizeI h ≤ 8 := by unfold sizeI; split <;> omega
  unfold num1
  generalize hn : sizeI h = n at *
  cases n with
  | zero =>
    have hb : ¬ badI h t 0 := by unfold badI; omega
    have e : meetB (fillN t 0 0) (fillN t 255 0) (spanI h).1 (spanI h).2 = true := by
      unfold spanI; rw [hn]; split <;> simp [meetB, needF, needL, grN, fillN]
    rw [if_neg hb, e]; simp
  | succ m =>
    cases t with
    | nil =>
      have hb : ¬ badI h [] (m + 1) := by unfold badI; simp; omega
      rw [if_neg hb, fill_nil0, fill_nil255, meet_none (by omega) h hn]
      simp
    | cons c t =>
      have a0 := fill_range ht.tail (f := 0) (by decide) (by decide) m
      have a1 := fill_range ht.tail (f := 255) (by decide) (by decide) m
      have hc := ht.head
      rw [fill_head, fill_head]
      simp only [List.getD_cons_zero, List.tail_cons]
      have hb : badI h (c :: t) (m + 1) ↔ (if h < 9 then c = 255 ∨ (m + 1 = 8 ∧ c < 128) else c = 0 ∨ (m + 1 = 8 ∧ 127 < c)) := by
        unfold badI; simp only [List.getD_cons_zero, List.length_cons]
        constructor
        · rintro (h | h)
          · omega
          · exact h.2.2
        · intro h; exact .inr ⟨by omega, by omega, h⟩
      have hmeet : meetB (c * 256 ^ m + fillN t 0 m) (c * 256 ^ m + fillN t 255 m) (spanI h).1 (spanI h).2 = true ↔ ¬ badI h (c :: t) (m + 1) := by
        rw [hb]
        unfold spanI
        rw [hn]
        split
        · exact meet_neg (by omega) hc.1 hc.2 a0.1 a0.2 a1.1 a1.2
        · exact meet_pos (by omega) hc.1 hc.2 a0.1 a0.2 a1.1 a1.2
      by_cases hbad : badI h (c :: t) (m + 1)
      · have e : meetB (c * 256 ^ m + fillN t 0 m) (c * 256 ^ m + fillN t 255 m) (spanI h).1 (spanI h).2 = false := by
          rw [Bool.eq_false_iff]; intro he; exact hmeet.1 he hbad
        rw [if_pos hbad, e]; simp
      · rw [if_neg hbad, hmeet.2 hbad]
        by_cases hl : (c :: t).length < m + 1
        · rw [if_pos hl, if_pos rfl, if_pos hl]; rfl
        · rw [if_neg hl, if_pos rfl, if_neg hl, Nat.add_comm 1]; rfl
/-- What decoding a string finds: its bytes, the length and the error. -/
def getT : List Int → List Int → Nat → List Int × Nat × Nat
  | [], _, _ => ([], 0, 5)
  | [_], _, _ => ([], 0, 5)
  | c :: d :: t, acc, i => if c ≠ 0 then getT (d :: t) (acc ++ [c]) (i + 1) else if d = 0 then (acc, i + 2, 0) else if d = 1 then getT t (acc ++ [0]) (i + 2) else ([], 0, 6)
theorem getT_nil (acc : List Int) (i : Nat) : getT [] acc i = ([], 0, 5) := rfl
theorem getT_one (c : Int) (acc : List Int) (i : Nat) : getT [c] acc i = ([], 0, 5) := rfl
theorem getT_char {c : Int} (h : c ≠ 0) : ∀ (t acc : List Int) (i : Nat), getT (c :: t) acc i = getT t (acc ++ [c]) (i + 1)
  | [], _, _ => rfl
  | d :: t, acc, i => by rw [getT, if_pos h]
theorem getT_stop (t acc : List Int) (i : Nat) : getT (0 :: 0 :: t) acc i = (acc, i + 2, 0) := by simp [getT]
theorem getT_zero (t acc : List Int) (i : Nat) : getT (0 :: 1 :: t) acc i = getT t (acc ++ [0]) (i + 2) := by
  rw [getT, if_neg (by simp)]; simp
theorem getT_bad {d : Int} (h0 : d ≠ 0) (h1 : d ≠ 1) (t acc : List Int) (i : Nat) : getT (0 :: d :: t) acc i = ([], 0, 6) := by simp [getT, h0, h1]
theorem getT_enc (more : List Int) : ∀ (s acc : List Int) (i : Nat), getT (encT s ++ more) acc i = (acc ++ s, i + (encT s).length, 0)
  | [], acc, i => by
    show getT (0 :: 0 :: more) acc i = _
    rw [getT_stop]; simp [encT, encP]
  | c :: s, acc, i => by
    rw [encT_cons]
    unfold pieT
    split
    · rename_i h
      subst h
      show getT (0 :: 1 :: (encT s ++ more)) acc i = _
      rw [getT_zero, getT_enc more s]; simp; omega
    · rename_i h
      show getT (c :: (encT s ++ more)) acc i = _
      rw [getT_char h, getT_enc more s]; simp; omega
set_option maxRecDepth 100000
open Go.RowKit
set_option linter.unusedVariables false
abbrev BOwn (w : World) (B : Nat) (v : Value) (l : List Int) : Prop := w.ownsRow B 5 1 v l.length (l.map (Value.int .u8))
theorem own_slice3 {w : World} {B E : Nat} {v : Value} {n : Nat} {xs : List Value} (h : w.ownsRow B E 1 v n xs) : ∃ a l c, v = .slice a l c := by
  obtain ⟨a, c, e⟩ := own_slice h
  exact ⟨a, n, c, e⟩
theorem own_ge {w : World} {B E : Nat} {v : Value} {n : Nat} {xs : List Value} (h : w.ownsRow B E 1 v n xs) : ∀ g, v.ownBlock = some g → B ≤ g := by
  intro g hg
  obtain ⟨_, h⟩ := h
  rcases h with ⟨rfl, _⟩ | ⟨g', cap, cur, rfl, h2, h3, h4⟩
  · simp [Value.ownBlock] at hg
  · simp [Value.ownBlock] at hg; subst hg; exact h2
theorem own_more {B : Nat} {w wr w1 : World} {o v' : Value} {l m : List Int} {ob : Obj} (hB : B ≤ wr.heap.size) (hnx : Below B w wr) (hown : BOwn wr B o l)
    (hown' : w1.ownsRow B 5 1 v' (l.length + m.length) (l.map (Value.int .u8) ++ m.map (Value.int .u8))) (hg : (wr.alloc ob).grownBy w1 o.ownBlock) : BOwn w1 B v' (l ++ m) ∧ Below B w w1 := by
  refine ⟨?_, (hnx.alloc hB ob).grown hg (by simp; omega) (fun k hk => (hown.lt k hk).1)⟩
  unfold BOwn
  rw [List.length_append, List.map_append]; exact hown'
theorem own_mono {w : World} {B B' : Nat} {v : Value} {l : List Int} (h : BOwn w B v l) (hb : B' ≤ B) : BOwn w B' v l := by
  refine ⟨h.1, ?_⟩
  rcases h.2 with h0 | ⟨g, cap, cur, h1, h2, h3⟩
  · exact .inl h0
  · exact .inr ⟨g, cap, cur, h1, Nat.le_trans hb h2, h3⟩
theorem own_form {w : World} {B : Nat} {v : Value} {l : List Int} (h : BOwn w B v l) (hn : 0 < l.length) : ∃ g cap, v = .slice (some ⟨g, 0, none⟩) l.length cap ∧ B ≤ g ∧ g < w.heap.size := by
  rcases h.2 with ⟨_, h0⟩ | ⟨g, cap, cur, hv, hb, hg, _⟩
  · omega
  · exact ⟨g, cap, hv, hb, (Array.getElem?_eq_some_iff.1 hg).1⟩
theorem own_set {w : World} {B g cap n : Nat} {l : List Int} (h : w.ownsRow B 5 1 (.slice (some ⟨g, 0, none⟩) n cap) n (l.map (Value.int .u8))) (j : Nat) (x : Int) :
    (w.setCell ⟨g, j, none⟩ (.int .u8 x)).ownsRow B 5 1 (.slice (some ⟨g, 0, none⟩) n cap) n ((l.set j x).map (Value.int .u8)) ∧ w.grownBy (w.setCell ⟨g, j, none⟩ (.int .u8 x)) (some g) := by
  have := World.ownsRow.stored h j (.int .u8 x)
  rw [List.map_set]; exact this
theorem own_get {w : World} {B g cap n : Nat} {l : List Int} (h : w.ownsRow B 5 1 (.slice (some ⟨g, 0, none⟩) n cap) n (l.map (Value.int .u8))) {j : Nat} (hj : j < l.length) :
    w.cell? ⟨g, j, none⟩ = some (.int .u8 (l.getD j 0)) ∧ w.frozen? ⟨g, j, none⟩ = false := by
  have h1 := h.1
  rw [List.length_map, Nat.mul_one] at h1
  refine ⟨?_, World.ownsRow.frozenAt h j⟩
  rw [World.ownsRow.cellAt h j (by omega), List.getElem?_map, List.getElem?_eq_getElem hj, List.getD, List.getElem?_eq_getElem hj]
  rfl
theorem own1 (w : World) (B : Nat) (x : Int) (hB : B ≤ w.heap.size) : BOwn (w.alloc (.cells #[.int .u8 x] 5)) B (.slice (some ⟨w.heap.size, 0, none⟩) 1 1) [x] :=
  ⟨by simp, .inr ⟨w.heap.size, 1, _, rfl, hB, heap_alloc_new w _, by simp, by decide, by simp, by simp⟩⟩
theorem own0 (w : World) (B : Nat) : BOwn w B (.slice none 0 0) [] := ⟨by simp, .inl ⟨rfl, rfl⟩⟩
section
variable {P : Program} (w : World)
theorem app_nil_run (base : Nat) (t ty e : TypeId) (i : TypeInfo) (size : Nat) (ht : P.underlying t = some (.slice e)) (hi : P.info? e = some i)
    (v : Value) (n : Nat) (xs : List Value) (hown : w.ownsRow base e size v n xs) (c : Nat) : (Builtin.append_ #[t, t] ty #[v, .slice none 0 c]).run P w = .ok v w := by
  rcases hown.2 with ⟨rfl, rfl⟩ | ⟨g, cap, cur, rfl, _, _, hnc, _⟩
  · simp [Builtin.append_, run_underlying ht, sizeOf, typeInfo, hi, Builtin.lenOf, Builtin.firstCells]
  · simp [Builtin.append_, run_underlying ht, sizeOf, typeInfo, hi, Builtin.lenOf, Builtin.firstCells, hnc, storeCells]
/-- An append of integers that are read elsewhere (nil and empty among them) to a row of the call's own. -/
theorem app_ints_run (base : Nat) (t ty e : TypeId) (i : TypeInfo) (z : Value) (bytes : Nat) (ht : P.underlying t = some (.slice e)) (hi : P.info? e = some i) (hz : i.zero = some z) (hsize : i.size = 1) (hby : i.bytes = bytes) (hzs : z.cells.size = 1)
    (k : IntKind) (v v2 : Value) (zs ns : List Int) (hown : w.ownsRow base e 1 v zs.length (zs.map (Value.int k))) (hv2 : Ints k w v2 ns) (h63 : zs.length + ns.length ≤ maxLen) (hbytes : (zs.length + ns.length) * bytes ≤ 140737488355328) (hbase : base ≤ w.heap.size) :
    ∃ v' w', (Builtin.append_ #[t, t] ty #[v, v2]).run P w = .ok v' w' ∧ w'.ownsRow base e 1 v' (zs ++ ns).length ((zs ++ ns).map (Value.int k)) ∧ w.grownBy w' v.ownBlock := by
  obtain ⟨a, cap, rfl, hc, ha⟩ := hv2
  have one : ∀ u ∈ ns.map (Value.int k), u.oneCell' = true := by
    intro u hu; obtain ⟨x, _, rfl⟩ := List.mem_map.1 hu; rfl
  have fin : ∀ (v' : Value) (w' : World), w'.ownsRow base e 1 v' (zs.length + ns.length) (zs.map (Value.int k) ++ ns.map (Value.int k)) → w'.ownsRow base e 1 v' (zs ++ ns).length ((zs ++ ns).map (Value.int k)) := fun v' w' h => by
    simpa using h
  cases a with
  | none =>
    have hn : ns = [] := by
      rcases ha with h | ⟨b, off, h, _⟩
      · exact h
      · cases h
    subst hn
    exact ⟨v, w, app_nil_run w base t ty e i 1 ht hi v _ _ hown cap, fin v w (by simpa using hown), World.grownBy.refl w _⟩
  | some ad =>
    have hnews : ∀ j u, (ns.map (Value.int k))[j]? = some u → w.cell? (ad.add j) = some u := fun j u hj => by
      rcases ha with h | ⟨b, off, h, _, hcell⟩
      · subst h; simp at hj
      · simp only [Option.some.injEq] at h
        subst h
        rw [List.getElem?_map] at hj
        obtain ⟨x, hx, rfl⟩ := Option.map_eq_some_iff.1 hj
        have hl := (List.getElem?_eq_some_iff.1 hx).1
        have hh := hcell j hl
        have e1 : ns.getD j 0 = x := by simp [List.getD, hx]
        rw [e1] at hh
        by_cases h0 : j = 0
        · subst h0; simpa [Addr.add] using hh
        · simpa [Addr.add, h0] using hh
    obtain ⟨v', w', hrun, r1, r2, _⟩ := run_append_own (P := P) w base t ty e i z 1 bytes ht hi hz hsize hby hzs (by omega) v zs.length _ hown ad ns.length cap (ns.map (Value.int k)) (by simp) hnews one h63 hbytes hbase
    exact ⟨v', w', hrun, fin v' w' r1, r2⟩
/-- An append of integers that are read elsewhere, in a plain region, whatever the guard, where it says yes. -/
theorem wpList_append_want {ops : Array Oper} {rest : List Oper} {o : Oper} {a : Act} {Q : Exit → Act → World → Prop} (hw : Region.wanted o (yielded ops a.tmps) = true) (s x : Operand) (t : TypeId)
    (ho : o.op = .call { callee := .builtin .append, args := #[s, x], argTypes := #[t, t] })
    (base : Nat) (e : TypeId) (i : TypeInfo) (z : Value) (bytes : Nat) (ht : P.underlying t = some (.slice e)) (hi : P.info? e = some i) (hz : i.zero = some z) (hsize : i.size = 1) (hby : i.bytes = bytes) (hzs : z.cells.size = 1)
    (k : IntKind) (v v2 : Value) (zs ns : List Int) (hs : a.eval s = v) (hx : a.eval x = v2) (hown : w.ownsRow base e 1 v zs.length (zs.map (Value.int k))) (hv2 : Ints k w v2 ns) (h63 : zs.length + ns.length ≤ maxLen) (hbytes : (zs.length + ns.length) * bytes ≤ 140737488355328) (hbase : base ≤ w.heap.size)
    (h : ∀ v' w', w'.ownsRow base e 1 v' (zs ++ ns).length ((zs ++ ns).map (Value.int k)) → w.grownBy w' v.ownBlock → wpList P ops Q rest (a.put o.dst v') w') : wpList P ops Q (o :: rest) a w :=
  BigFrame.wpList_want hw fun _ hK => by
    obtain ⟨v', w', hrun, r1, r2⟩ := app_ints_run (P := P) w base t o.type e i z bytes ht hi hz hsize hby hzs k v v2 zs ns hown hv2 h63 hbytes hbase
    unfold Oper.wp
    simp [execOp, ho, resolve, invoke, builtin, hs, hx, hrun, Result.andThen]
    exact hK _ _ (h v' w' r1 r2)
theorem app_ints_step {ops : Array Oper} {o : Oper} {a : Act} {K : Act → World → Prop} {Q : Exit → Act → World → Prop} {E : Prop} (hgd : o.guard = none) (s x : Operand) (t : TypeId)
    (ho : o.op = .call { callee := .builtin .append, args := #[s, x], argTypes := #[t, t] })
    (base : Nat) (e : TypeId) (i : TypeInfo) (z : Value) (bytes : Nat) (ht : P.underlying t = some (.slice e)) (hi : P.info? e = some i) (hz : i.zero = some z) (hsize : i.size = 1) (hby : i.bytes = bytes) (hzs : z.cells.size = 1)
    (k : IntKind) (v v2 : Value) (zs ns : List Int) (hs : a.eval s = v) (hx : a.eval x = v2) (hown : w.ownsRow base e 1 v zs.length (zs.map (Value.int k))) (hv2 : Ints k w v2 ns) (h63 : zs.length + ns.length ≤ maxLen) (hbytes : (zs.length + ns.length) * bytes ≤ 140737488355328) (hbase : base ≤ w.heap.size)
    (h : ∀ v' w', w'.ownsRow base e 1 v' (zs ++ ns).length ((zs ++ ns).map (Value.int k)) → w.grownBy w' v.ownBlock → K (a.put o.dst v') w') :
    if Region.wanted o (yielded ops a.tmps) = true then Oper.wp P o a w K Q else E := by
  have hw : Region.wanted o (yielded ops a.tmps) = true := by simp [Region.wanted, hgd]
  rw [if_pos hw]
  obtain ⟨v', w', hrun, r1, r2⟩ := app_ints_run (P := P) w base t o.type e i z bytes ht hi hz hsize hby hzs k v v2 zs ns hown hv2 h63 hbytes hbase
  unfold Oper.wp
  simp [execOp, ho, resolve, invoke, builtin, hs, hx, hrun, Result.andThen]
  exact h v' w' r1 r2
end
theorem own_grown {B : Nat} {w wr w1 : World} {o : Value} {l : List Int} {ob : Obj} (hB : B ≤ wr.heap.size) (hnx : Below B w wr) (hown : BOwn wr B o l) (hg : (wr.alloc ob).grownBy w1 o.ownBlock) : Below B w w1 :=
  (hnx.alloc hB ob).grown hg (by simp; omega) (fun k hk => (hown.lt k hk).1)
theorem lit_more {w w2 : World} {o : Obj} (hg : (w.alloc o).grownBy w2 (some w.heap.size)) : Below w.heap.size w w2 :=
  (below_one w o).grown hg (by simp) (fun k hk => by have e : w.heap.size = k := Option.some.inj hk; omega)
def ofS (s : ByteArray) : List Int := s.data.toList.map fun c => (c.toNat : Int)
theorem ofS_len (s : ByteArray) : (ofS s).length = s.size := by simp [ofS]
theorem ofS_bt (s : ByteArray) : Bt (ofS s) := fun x hx => by
  unfold ofS at hx
  obtain ⟨c, -, rfl⟩ := List.mem_map.1 hx
  have := UInt8.toNat_lt c
  omega
theorem ofS_take (s : ByteArray) (k : Nat) (h : k < s.size) : (ofS s).take (k + 1) = (ofS s).take k ++ [(s[k].toNat : Int)] := by
  have hl : k < (ofS s).length := by rw [ofS_len]; exact h
  rw [List.take_succ_eq_append_getElem hl]
  congr 2
  simp [ofS]
  rfl
/-- What a function that makes bytes returns. -/
def BytesB (B : Nat) (w : World) (l : List Int) (e : Ending) (w' : World) : Prop := (∃ v, e = .returned v ∧ BOwn w' B v l) ∧ Below B w w'
def BytesP (w : World) (l : List Int) : Ending → World → Prop := BytesB w.heap.size w l
end Go.Proofs.Ytgiekjckfgdfnaa
