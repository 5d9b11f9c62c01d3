/- Plain facts on digits of base 1000, the lowest first; nothing of the program. -/
import Derived.Test.YtifbmdophoemjaaNums
namespace Go.Proofs.Ytifbmdophoemjaa
set_option maxRecDepth 100000
open Go.RowKit
/-- The number of the first n digits. -/
def valN (a : List Int) : Nat → Int
  | 0 => 0
  | n + 1 => valN a n + a.getD n 0 * 1000 ^ n
def val (a : List Int) : Int := valN a a.length
def Dig (a : List Int) : Prop := ∀ x ∈ a, 0 ≤ x ∧ x ≤ 999
theorem Dig.getD {a : List Int} (h : Dig a) (i : Nat) : 0 ≤ a.getD i 0 ∧ a.getD i 0 ≤ 999 := by
  by_cases hi : i < a.length
  · have e : a.getD i 0 = a[i] := by simp [List.getD, hi]
    rw [e]; exact h _ (List.getElem_mem hi)
  · have e : a.getD i 0 = 0 := by simp [List.getD, Nat.le_of_not_lt hi]
    rw [e]; omega
theorem getD_past {a : List Int} {i : Nat} (h : a.length ≤ i) : a.getD i 0 = 0 := by simp [List.getD, h]
theorem p_pos (n : Nat) : (0 : Int) < 1000 ^ n := Int.pow_pos (by decide)
theorem p_succ (n : Nat) : (1000 : Int) ^ (n + 1) = 1000 ^ n * 1000 := Int.pow_succ ..
theorem p_mono {m n : Nat} (h : m ≤ n) : (1000 : Int) ^ m ≤ 1000 ^ n := by
  induction n with
  | zero => have : m = 0 := by omega
            subst this; exact Int.le_refl _
  | succ n ih =>
    by_cases e : m = n + 1
    · subst e; exact Int.le_refl _
    · have := ih (by omega); have := p_pos n; rw [p_succ]; omega
theorem valN_range {a : List Int} (h : Dig a) (n : Nat) : 0 ≤ valN a n ∧ valN a n < 1000 ^ n := by
  induction n with
  | zero => simp [valN]
  | succ n ih =>
    have hd := h.getD n
    have hp := p_pos n
    rw [valN, p_succ]
    have h1 : 0 ≤ a.getD n 0 * 1000 ^ n := Int.mul_nonneg hd.1 (by omega)
    have h2 : a.getD n 0 * 1000 ^ n ≤ 999 * 1000 ^ n := Int.mul_le_mul_of_nonneg_right hd.2 (by omega)
    omega
theorem valN_mono {a : List Int} (h : Dig a) {m n : Nat} (hm : m ≤ n) : valN a m ≤ valN a n := by
  induction n with
  | zero => have : m = 0 := by omega
            subst this; exact Int.le_refl _
  | succ n ih =>
    by_cases e : m = n + 1
    · subst e; exact Int.le_refl _
    · have := ih (by omega)
      have h1 : 0 ≤ a.getD n 0 * 1000 ^ n := Int.mul_nonneg (h.getD n).1 (Int.le_of_lt (p_pos n))
      rw [valN]; omega
theorem valN_past (a : List Int) {n : Nat} (hn : a.length ≤ n) : valN a n = val a := by
  induction n with
  | zero => have : a.length = 0 := by omega
            simp [val, this]
  | succ n ih =>
    by_cases e : a.length = n + 1
    · rw [val, e]
    · rw [valN, ih (by omega), getD_past (by omega)]; omega
theorem val_nil : val [] = 0 := rfl
theorem val_range {a : List Int} (h : Dig a) : 0 ≤ val a ∧ val a < 1000 ^ a.length := valN_range h _
theorem valN_congr {a b : List Int} {n : Nat} (h : ∀ i, i < n → a.getD i 0 = b.getD i 0) : valN a n = valN b n := by
  induction n with
  | zero => rfl
  | succ n ih => rw [valN, valN, ih (fun i hi => h i (by omega)), h n (by omega)]
theorem valN_snoc_lt (a : List Int) (x : Int) {n : Nat} (h : n ≤ a.length) : valN (a ++ [x]) n = valN a n :=
  valN_congr (fun i hi => by simp [List.getD, List.getElem?_append, show i < a.length from by omega])
theorem val_snoc (a : List Int) (x : Int) : val (a ++ [x]) = val a + x * 1000 ^ a.length := by
  rw [val, List.length_append, List.length_singleton, valN, valN_snoc_lt _ _ (Nat.le_refl _)]
  have : (a ++ [x]).getD a.length 0 = x := by simp [List.getD]
  rw [this]; rfl
theorem Dig.snoc {a : List Int} (h : Dig a) {x : Int} (h1 : 0 ≤ x) (h2 : x ≤ 999) : Dig (a ++ [x]) := by
  intro y hy
  rcases List.mem_append.1 hy with hy | hy
  · exact h y hy
  · simp at hy; subst hy; exact ⟨h1, h2⟩
theorem Dig.nil : Dig [] := fun _ h => by cases h
theorem Dig.take {a : List Int} (h : Dig a) (n : Nat) : Dig (a.take n) := fun x hx => h x (List.mem_of_mem_take hx)
/-- A step that carries: x is cut into a digit and what goes on. -/
theorem carry_step (x p : Int) : x % 1000 * p + x / 1000 * (p * 1000) = x * p := by
  have h : x = x % 1000 + x / 1000 * 1000 := by omega
  calc x % 1000 * p + x / 1000 * (p * 1000) = (x % 1000 + x / 1000 * 1000) * p := by rw [Int.add_mul, Int.mul_assoc (x / 1000) 1000 p, Int.mul_comm 1000 p]
    _ = x * p := by rw [← h]
/-- Where all digits from n on are alike, the numbers differ as their first n digits do. -/
theorem val_same_top {a b : List Int} {n : Nat} (h : ∀ i, n ≤ i → a.getD i 0 = b.getD i 0) : val a - valN a n = val b - valN b n := by
  have key : ∀ m, n ≤ m → valN a m - valN a n = valN b m - valN b n := by
    intro m
    induction m with
    | zero => intro hm; have : n = 0 := by omega
              subst this; rfl
    | succ m ih =>
      intro hm
      by_cases e : n = m + 1
      · subst e; omega
      · have := ih (by omega)
        rw [valN, valN, h m (by omega)]; omega
  have h1 := key (max n (max a.length b.length)) (by omega)
  rw [valN_past a (by omega), valN_past b (by omega)] at h1
  exact h1
theorem val_eq_of_same {a b : List Int} (h : ∀ i, a.getD i 0 = b.getD i 0) : val a = val b := by
  have := val_same_top (n := 0) (a := a) (b := b) (fun i _ => h i)
  simp only [valN] at this; omega
theorem val_lt_of_digit {a b : List Int} (ha : Dig a) (hb : Dig b) {n : Nat} (h : ∀ i, n + 1 ≤ i → a.getD i 0 = b.getD i 0) (hl : a.getD n 0 < b.getD n 0) : val a < val b := by
  have h1 := val_same_top h
  have h2 := valN_range ha n
  have h3 := valN_range hb n
  rw [valN, valN] at h1
  have h4 : (a.getD n 0 + 1) * 1000 ^ n ≤ b.getD n 0 * 1000 ^ n := Int.mul_le_mul_of_nonneg_right (by omega) (Int.le_of_lt (p_pos n))
  rw [Int.add_mul] at h4
  omega
/-- -1, 0, 1: less, the same, greater. -/
def cmpI (x y : Int) : Int := if x < y then -1 else if x = y then 0 else 1
theorem cmpI_lt {x y : Int} (h : x < y) : cmpI x y = -1 := by simp [cmpI, h]
theorem cmpI_eq {x y : Int} (h : x = y) : cmpI x y = 0 := by simp [cmpI, h]
theorem cmpI_gt {x y : Int} (h : y < x) : cmpI x y = 1 := by
  have h1 : ¬ x < y := by omega
  have h2 : ¬ x = y := by omega
  simp [cmpI, h1, h2]
theorem cmpI_range (x y : Int) : -1 ≤ cmpI x y ∧ cmpI x y ≤ 1 := by unfold cmpI; split <;> (try split) <;> omega
theorem cmpI_ge {x y : Int} : 0 ≤ cmpI x y ↔ y ≤ x := by unfold cmpI; split <;> (try split) <;> omega
theorem cmpI_le {x y : Int} : cmpI x y ≤ 0 ↔ x ≤ y := by unfold cmpI; split <;> (try split) <;> omega
/-- The digits above the number's own size are noughts. -/
theorem valN_of_lt {a : List Int} (h : Dig a) {n : Nat} (hv : val a < 1000 ^ n) : valN a n = val a := by
  by_cases hn : a.length ≤ n
  · exact valN_past a hn
  · have key : ∀ m, n ≤ m → valN a m < 1000 ^ n → valN a m = valN a n := by
      intro m
      induction m with
      | zero => intro hm _; have : n = 0 := by omega
                subst this; rfl
      | succ m ih =>
        intro hm hlt
        by_cases e : n = m + 1
        · rw [e]
        · rw [valN] at hlt ⊢
          have hd := h.getD m
          have hr := valN_range h m
          have hp := p_pos m
          have hq := p_mono (m := n) (n := m) (by omega)
          have hz : a.getD m 0 = 0 := by
            by_cases e0 : a.getD m 0 = 0
            · exact e0
            · exfalso
              have : 1 * 1000 ^ m ≤ a.getD m 0 * 1000 ^ m := Int.mul_le_mul_of_nonneg_right (by omega) (Int.le_of_lt hp)
              omega
          rw [hz] at hlt ⊢
          have := ih (by omega) (by omega)
          omega
    exact (key a.length (by omega) hv).symm
/-- No noughts at the end. -/
def Tidy (a : List Int) : Prop := a = [] ∨ a.getD (a.length - 1) 0 ≠ 0
theorem Tidy.size {a : List Int} (ht : Tidy a) (hd : Dig a) (hne : a ≠ []) : 1000 ^ (a.length - 1) ≤ val a := by
  have h0 := ht.resolve_left hne
  have hl : 0 < a.length := List.length_pos_iff.2 hne
  have e : a.length = (a.length - 1) + 1 := by omega
  have h1 := (hd.getD (a.length - 1))
  have h2 := (valN_range hd (a.length - 1)).1
  have h3 : 1 * 1000 ^ (a.length - 1) ≤ a.getD (a.length - 1) 0 * 1000 ^ (a.length - 1) := Int.mul_le_mul_of_nonneg_right (by omega) (Int.le_of_lt (p_pos _))
  have h4 : val a = valN a (a.length - 1) + a.getD (a.length - 1) 0 * 1000 ^ (a.length - 1) := by
    conv => lhs; rw [val, e]
    rfl
  omega
theorem Tidy.len {a : List Int} (ht : Tidy a) (hd : Dig a) {n : Nat} (hv : val a < 1000 ^ n) : a.length ≤ n := by
  by_cases hne : a = []
  · subst hne; simp
  · have h := ht.size hd hne
    by_cases hn : a.length ≤ n
    · exact hn
    · have := p_mono (m := n) (n := a.length - 1) (by omega)
      omega
theorem Tidy.zero {a : List Int} (ht : Tidy a) (hd : Dig a) : val a = 0 ↔ a = [] := by
  constructor
  · intro h
    by_cases hne : a = []
    · exact hne
    · have := ht.size hd hne
      have := p_pos (a.length - 1)
      omega
  · intro h; subst h; rfl
theorem Tidy.pos {a : List Int} (ht : Tidy a) (hd : Dig a) (hne : a ≠ []) : 0 < val a := by
  have := ht.size hd hne
  have := p_pos (a.length - 1)
  omega
theorem getD_take {a : List Int} {n i : Nat} (h : i < n) : (a.take n).getD i 0 = a.getD i 0 := by
  simp [List.getD, h]
/-- Noughts cut off. -/
theorem val_take {a : List Int} {n : Nat} (hn : n ≤ a.length) (h : ∀ i, n ≤ i → a.getD i 0 = 0) : val (a.take n) = val a := by
  refine val_eq_of_same (fun i => ?_)
  by_cases hi : i < n
  · exact getD_take hi
  · rw [h i (by omega), getD_past (by rw [List.length_take]; omega)]
theorem tidy_take {a : List Int} {n : Nat} (hn : n ≤ a.length) (h : n = 0 ∨ a.getD (n - 1) 0 ≠ 0) : Tidy (a.take n) := by
  rcases h with rfl | h
  · exact .inl rfl
  · by_cases h0 : n = 0
    · subst h0; exact .inl rfl
    · refine .inr ?_
      have : (a.take n).length = n := by rw [List.length_take]; omega
      rw [this, getD_take (by omega)]; exact h
end Go.Proofs.Ytifbmdophoemjaa
