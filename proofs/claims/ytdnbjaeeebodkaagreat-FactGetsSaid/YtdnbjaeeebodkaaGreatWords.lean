/- Plain facts on words of 32 bits, the lowest first; nothing of the program. -/
import Derived.Test.YtdnbjaeeebodkaaGreatDigits
namespace Go.Proofs.YtdnbjaeeebodkaaGreat
set_option maxRecDepth 100000
open Go.RowKit
set_option linter.unusedVariables false
/-- The number of the first n digits. -/
def wvN (a : List Int) : Nat → Int
  | 0 => 0
  | n + 1 => wvN a n + a.getD n 0 * 4294967296 ^ n
def wv (a : List Int) : Int := wvN a a.length
def Wd (a : List Int) : Prop := ∀ x ∈ a, 0 ≤ x ∧ x ≤ 4294967295
theorem Wd.getD {a : List Int} (h : Wd a) (i : Nat) : 0 ≤ a.getD i 0 ∧ a.getD i 0 ≤ 4294967295 := by
  by_cases hi : i < a.length
  · have e : a.getD i 0 = a[i] := by simp [List.getD, hi]
    rw [e]; exact h _ (List.getElem_mem hi)
  · have e : a.getD i 0 = 0 := by simp [List.getD, Nat.le_of_not_lt hi]
    rw [e]; omega
theorem q_pos (n : Nat) : (0 : Int) < 4294967296 ^ n := Int.pow_pos (by decide)
theorem q_succ (n : Nat) : (4294967296 : Int) ^ (n + 1) = 4294967296 ^ n * 4294967296 := Int.pow_succ ..
theorem q_mono {m n : Nat} (h : m ≤ n) : (4294967296 : Int) ^ m ≤ 4294967296 ^ n := by
  induction n with
  | zero => have : m = 0 := by omega
            subst this; exact Int.le_refl _
  | succ n ih =>
    by_cases e : m = n + 1
    · subst e; exact Int.le_refl _
    · have := ih (by omega); have := q_pos n; rw [q_succ]; omega
theorem wvN_range {a : List Int} (h : Wd a) (n : Nat) : 0 ≤ wvN a n ∧ wvN a n < 4294967296 ^ n := by
  induction n with
  | zero => simp [wvN]
  | succ n ih =>
    have hd := h.getD n
    have hp := q_pos n
    rw [wvN, q_succ]
    have h1 : 0 ≤ a.getD n 0 * 4294967296 ^ n := Int.mul_nonneg hd.1 (by omega)
    have h2 : a.getD n 0 * 4294967296 ^ n ≤ 4294967295 * 4294967296 ^ n := Int.mul_le_mul_of_nonneg_right hd.2 (by omega)
    omega
theorem wvN_mono {a : List Int} (h : Wd a) {m n : Nat} (hm : m ≤ n) : wvN a m ≤ wvN a n := by
  induction n with
  | zero => have : m = 0 := by omega
            subst this; exact Int.le_refl _
  | succ n ih =>
    by_cases e : m = n + 1
    · subst e; exact Int.le_refl _
    · have := ih (by omega)
      have h1 : 0 ≤ a.getD n 0 * 4294967296 ^ n := Int.mul_nonneg (h.getD n).1 (Int.le_of_lt (q_pos n))
      rw [wvN]; omega
theorem wvN_past (a : List Int) {n : Nat} (hn : a.length ≤ n) : wvN a n = wv a := by
  induction n with
  | zero => have : a.length = 0 := by omega
            simp [wv, this]
  | succ n ih =>
    by_cases e : a.length = n + 1
    · rw [wv, e]
    · rw [wvN, ih (by omega), getD_past (by omega)]; omega
theorem wv_nil : wv [] = 0 := rfl
theorem wv_range {a : List Int} (h : Wd a) : 0 ≤ wv a ∧ wv a < 4294967296 ^ a.length := wvN_range h _
theorem wvN_congr {a b : List Int} {n : Nat} (h : ∀ i, i < n → a.getD i 0 = b.getD i 0) : wvN a n = wvN b n := by
  induction n with
  | zero => rfl
  | succ n ih => rw [wvN, wvN, ih (fun i hi => h i (by omega)), h n (by omega)]
theorem wvN_snoc_lt (a : List Int) (x : Int) {n : Nat} (h : n ≤ a.length) : wvN (a ++ [x]) n = wvN a n :=
  wvN_congr (fun i hi => by simp [List.getD, List.getElem?_append, show i < a.length from by omega])
theorem wv_snoc (a : List Int) (x : Int) : wv (a ++ [x]) = wv a + x * 4294967296 ^ a.length := by
  rw [wv, List.length_append, List.length_singleton, wvN, wvN_snoc_lt _ _ (Nat.le_refl _)]
  have : (a ++ [x]).getD a.length 0 = x := by simp [List.getD]
  rw [this]; rfl
theorem Wd.snoc {a : List Int} (h : Wd a) {x : Int} (h1 : 0 ≤ x) (h2 : x ≤ 4294967295) : Wd (a ++ [x]) := by
  intro y hy
  rcases List.mem_append.1 hy with hy | hy
  · exact h y hy
  · simp at hy; subst hy; exact ⟨h1, h2⟩
theorem Wd.nil : Wd [] := fun _ h => by cases h
theorem Wd.take {a : List Int} (h : Wd a) (n : Nat) : Wd (a.take n) := fun x hx => h x (List.mem_of_mem_take hx)
/-- A step that carries: x is cut into a digit and what goes on. -/
theorem wcarry_step (x p : Int) : x % 4294967296 * p + x / 4294967296 * (p * 4294967296) = x * p := by
  have h : x = x % 4294967296 + x / 4294967296 * 4294967296 := by omega
  calc x % 4294967296 * p + x / 4294967296 * (p * 4294967296) = (x % 4294967296 + x / 4294967296 * 4294967296) * p := by rw [Int.add_mul, Int.mul_assoc (x / 4294967296) 4294967296 p, Int.mul_comm 4294967296 p]
    _ = x * p := by rw [← h]
/-- Where all digits from n on are alike, the numbers differ as their first n digits do. -/
theorem wv_same_top {a b : List Int} {n : Nat} (h : ∀ i, n ≤ i → a.getD i 0 = b.getD i 0) : wv a - wvN a n = wv b - wvN b n := by
  have key : ∀ m, n ≤ m → wvN a m - wvN a n = wvN b m - wvN b n := by
    intro m
    induction m with
    | zero => intro hm; have : n = 0 := by omega
              subst this; rfl
    | succ m ih =>
      intro hm
      by_cases e : n = m + 1
      · subst e; omega
      · have := ih (by omega)
        rw [wvN, wvN, h m (by omega)]; omega
  have h1 := key (max n (max a.length b.length)) (by omega)
  rw [wvN_past a (by omega), wvN_past b (by omega)] at h1
  exact h1
theorem wv_eq_of_same {a b : List Int} (h : ∀ i, a.getD i 0 = b.getD i 0) : wv a = wv b := by
  have := wv_same_top (n := 0) (a := a) (b := b) (fun i _ => h i)
  simp only [wvN] at this; omega
theorem wv_lt_of_digit {a b : List Int} (ha : Wd a) (hb : Wd b) {n : Nat} (h : ∀ i, n + 1 ≤ i → a.getD i 0 = b.getD i 0) (hl : a.getD n 0 < b.getD n 0) : wv a < wv b := by
  have h1 := wv_same_top h
  have h2 := wvN_range ha n
  have h3 := wvN_range hb n
  rw [wvN, wvN] at h1
  have h4 : (a.getD n 0 + 1) * 4294967296 ^ n ≤ b.getD n 0 * 4294967296 ^ n := Int.mul_le_mul_of_nonneg_right (by omega) (Int.le_of_lt (q_pos n))
  rw [Int.add_mul] at h4
  omega
/-- The digits above the number's own size are noughts. -/
theorem wvN_of_lt {a : List Int} (h : Wd a) {n : Nat} (hv : wv a < 4294967296 ^ n) : wvN a n = wv a := by
  by_cases hn : a.length ≤ n
  · exact wvN_past a hn
  · have key : ∀ m, n ≤ m → wvN a m < 4294967296 ^ n → wvN a m = wvN a n := by
      intro m
      induction m with
      | zero => intro hm _; have : n = 0 := by omega
                subst this; rfl
      | succ m ih =>
        intro hm hlt
        by_cases e : n = m + 1
        · rw [e]
        · rw [wvN] at hlt ⊢
          have hd := h.getD m
          have hr := wvN_range h m
          have hp := q_pos m
          have hq := q_mono (m := n) (n := m) (by omega)
          have hz : a.getD m 0 = 0 := by
            by_cases e0 : a.getD m 0 = 0
            · exact e0
            · exfalso
              have : 1 * 4294967296 ^ m ≤ a.getD m 0 * 4294967296 ^ m := Int.mul_le_mul_of_nonneg_right (by omega) (Int.le_of_lt hp)
              omega
          rw [hz] at hlt ⊢
          have := ih (by omega) (by omega)
          omega
    exact (key a.length (by omega) hv).symm
theorem Tidy.wsize {a : List Int} (ht : Tidy a) (hd : Wd a) (hne : a ≠ []) : 4294967296 ^ (a.length - 1) ≤ wv a := by
  have h0 := ht.resolve_left hne
  have hl : 0 < a.length := List.length_pos_iff.2 hne
  have e : a.length = (a.length - 1) + 1 := by omega
  have h1 := (hd.getD (a.length - 1))
  have h2 := (wvN_range hd (a.length - 1)).1
  have h3 : 1 * 4294967296 ^ (a.length - 1) ≤ a.getD (a.length - 1) 0 * 4294967296 ^ (a.length - 1) := Int.mul_le_mul_of_nonneg_right (by omega) (Int.le_of_lt (q_pos _))
  have h4 : wv a = wvN a (a.length - 1) + a.getD (a.length - 1) 0 * 4294967296 ^ (a.length - 1) := by
    conv => lhs; rw [wv, e]
    rfl
  omega
theorem Tidy.wlen {a : List Int} (ht : Tidy a) (hd : Wd a) {n : Nat} (hv : wv a < 4294967296 ^ n) : a.length ≤ n := by
  by_cases hne : a = []
  · subst hne; simp
  · have h := ht.wsize hd hne
    by_cases hn : a.length ≤ n
    · exact hn
    · have := q_mono (m := n) (n := a.length - 1) (by omega)
      omega
theorem Tidy.wzero {a : List Int} (ht : Tidy a) (hd : Wd a) : wv a = 0 ↔ a = [] := by
  constructor
  · intro h
    by_cases hne : a = []
    · exact hne
    · have := ht.wsize hd hne
      have := q_pos (a.length - 1)
      omega
  · intro h; subst h; rfl
theorem Tidy.wpos {a : List Int} (ht : Tidy a) (hd : Wd a) (hne : a ≠ []) : 0 < wv a := by
  have := ht.wsize hd hne
  have := q_pos (a.length - 1)
  omega
/-- Noughts cut off. -/
theorem wv_take {a : List Int} {n : Nat} (hn : n ≤ a.length) (h : ∀ i, n ≤ i → a.getD i 0 = 0) : wv (a.take n) = wv a := by
  refine wv_eq_of_same (fun i => ?_)
  by_cases hi : i < n
  · exact getD_take hi
  · rw [h i (by omega), getD_past (by rw [List.length_take]; omega)]
end Go.Proofs.YtdnbjaeeebodkaaGreat
