/- Contracts that the law leans on, pruned and merged: Nums Digits Words Ints. -/
import Derived.WalkKit
import Derived.Laws.Bits64
import Derived.Laws.Bits64b
import Derived.Laws.BitsAllLaws
import Derived.Lib.Hide
import Derived.Deep.Draws
/- Plain facts on 64-bit integers, bits and ends of calls; nothing of the program. -/
namespace Go.Proofs.YtigikgphipebiaaGreatDoor
set_option maxRecDepth 100000
open Go.RowKit
theorem ret_int {k : IntKind} {a b : Int} (h : a = b) : Ending.returned (.int k a) = .returned (.int k b) := by rw [h]
theorem ret_bool {a b : Bool} (h : a = b) : Ending.returned (.bool a) = .returned (.bool b) := by rw [h]
theorem ret_ib {k : IntKind} {a b : Int} {x y : Bool} (h : a = b) (g : x = y) : Ending.returned (.tuple #[.int k a, .bool x]) = .returned (.tuple #[.int k b, .bool y]) := by rw [h, g]
theorem ret_ii {k l : IntKind} {a b c d : Int} (h : a = b) (i : c = d) : Ending.returned (.tuple #[.int k a, .int l c]) = .returned (.tuple #[.int k b, .int l d]) := by rw [h, i]
theorem wrap64_in {n : Int} (h1 : -9223372036854775808 ≤ n) (h2 : n ≤ 9223372036854775807) : wrap64 n = n := by unfold wrap64; omega
theorem wrap_i64_toNat (v : BitVec 64) : IntKind.i64.wrap (v.toNat : Int) = v.toInt := by
  have h := v.isLt
  rw [IntKind.wrap_i64, BitVec.toInt_eq_toNat_cond]
  split <;> omega
theorem ofInt_msb (x : Int) (h1 : -9223372036854775808 ≤ x) (h2 : x ≤ 9223372036854775807) : (BitVec.ofInt 64 x).msb = decide (x < 0) := by
  rw [BitVec.msb_eq_toInt, BitVec.toInt_ofInt]
  have : x.bmod (2 ^ 64) = x := by
    rw [Int.bmod_eq_of_le] <;> omega
  rw [this]
theorem i64_and_eq (x y : Int) : bits .and .i64 x y = (BitVec.ofInt 64 x &&& BitVec.ofInt 64 y).toInt := wrap_i64_toNat _
theorem i64_xor_eq (x y : Int) : bits .xor .i64 x y = (BitVec.ofInt 64 x ^^^ BitVec.ofInt 64 y).toInt := wrap_i64_toNat _
theorem toInt_range (v : BitVec 64) : -9223372036854775808 ≤ v.toInt ∧ v.toInt ≤ 9223372036854775807 := by
  have h := v.isLt
  rw [BitVec.toInt_eq_toNat_cond]
  split <;> omega
theorem i64_xor_range (x y : Int) : -9223372036854775808 ≤ bits .xor .i64 x y ∧ bits .xor .i64 x y ≤ 9223372036854775807 := by
  rw [i64_xor_eq]; exact toInt_range _
theorem toInt_neg (v : BitVec 64) : decide (v.toInt < 0) = v.msb := by
  rw [BitVec.msb_eq_toInt]
theorem i64_and_neg (x y : Int) (h1 : -9223372036854775808 ≤ x) (h2 : x ≤ 9223372036854775807) (h3 : -9223372036854775808 ≤ y) (h4 : y ≤ 9223372036854775807) :
    decide (bits .and .i64 x y < 0) = (decide (x < 0) && decide (y < 0)) := by
  rw [i64_and_eq, toInt_neg, BitVec.msb_and, ofInt_msb x h1 h2, ofInt_msb y h3 h4]
theorem i64_xor_neg (x y : Int) (h1 : -9223372036854775808 ≤ x) (h2 : x ≤ 9223372036854775807) (h3 : -9223372036854775808 ≤ y) (h4 : y ≤ 9223372036854775807) :
    decide (bits .xor .i64 x y < 0) = (decide (x < 0) != decide (y < 0)) := by
  rw [i64_xor_eq, toInt_neg, BitVec.msb_xor, ofInt_msb x h1 h2, ofInt_msb y h3 h4]
theorem floor_unique (a b q r : Int) (h : r + b * q = a) (hp : 0 < b → 0 ≤ r ∧ r < b) (hn : b < 0 → b < r ∧ r ≤ 0) (hb : b ≠ 0) : a.fdiv b = q ∧ a.fmod b = r := by
  have h2 := Int.fmod_add_mul_fdiv a b
  have key : a.fdiv b = q := by
    rcases Int.lt_or_gt_of_ne hb with hb | hb
    · obtain ⟨h3, h4⟩ := hn hb
      have e : a.fdiv b = (-a).fdiv (-b) := (Int.neg_fdiv_neg a b).symm
      rw [e, Int.fdiv_eq_ediv_of_nonneg _ (by omega)]
      refine ((Int.ediv_emod_unique (a := -a) (b := -b) (r := -r) (q := q) (by omega)).2 ⟨?_, by omega, by omega⟩).1
      rw [Int.neg_mul]; omega
    · obtain ⟨h3, h4⟩ := hp hb
      rw [Int.fdiv_eq_ediv_of_nonneg _ (by omega)]
      exact ((Int.ediv_emod_unique (a := a) (b := b) (r := r) (q := q) (by omega)).2 ⟨h, by omega, by omega⟩).1
  refine ⟨key, ?_⟩
  rw [key] at h2
  omega
/-- Does a number fit into an int64; and itself, or 0. -/
def fitB (z : Int) : Bool := decide (-9223372036854775808 ≤ z) && decide (z ≤ 9223372036854775807)
def clip (z : Int) : Int := bif fitB z then z else 0
theorem fitB_yes {z : Int} (h1 : -9223372036854775808 ≤ z) (h2 : z ≤ 9223372036854775807) : fitB z = true := by simp [fitB, h1, h2]
theorem fitB_no {z : Int} (h : z < -9223372036854775808 ∨ 9223372036854775807 < z) : fitB z = false := by
  simp only [fitB, Bool.and_eq_false_iff, decide_eq_false_iff_not]; omega
theorem clip_yes {z : Int} (h1 : -9223372036854775808 ≤ z) (h2 : z ≤ 9223372036854775807) : clip z = z := by simp [clip, fitB_yes h1 h2]
theorem clip_no {z : Int} (h : z < -9223372036854775808 ∨ 9223372036854775807 < z) : clip z = 0 := by simp [clip, fitB_no h]
theorem ret_fit {z y : Int} {b : Bool} (h1 : -9223372036854775808 ≤ z) (h2 : z ≤ 9223372036854775807) (hy : y = z) (hb : b = true) : Ending.returned (.tuple #[.int .i64 y, .bool b]) = .returned (.tuple #[.int .i64 (clip z), .bool (fitB z)]) :=
  ret_ib (by rw [clip_yes h1 h2, hy]) (by rw [fitB_yes h1 h2, hb])
theorem ret_nofit {z y : Int} {b : Bool} (h : z < -9223372036854775808 ∨ 9223372036854775807 < z) (hy : y = 0) (hb : b = false) : Ending.returned (.tuple #[.int .i64 y, .bool b]) = .returned (.tuple #[.int .i64 (clip z), .bool (fitB z)]) :=
  ret_ib (by rw [clip_no h, hy]) (by rw [fitB_no h, hb])
theorem and_xor_neg (x y u v : Int) (hx : -9223372036854775808 ≤ x ∧ x ≤ 9223372036854775807) (hy : -9223372036854775808 ≤ y ∧ y ≤ 9223372036854775807) (hu : -9223372036854775808 ≤ u ∧ u ≤ 9223372036854775807) (hv : -9223372036854775808 ≤ v ∧ v ≤ 9223372036854775807) :
    decide (bits .and .i64 (bits .xor .i64 x y) (bits .xor .i64 u v) < 0) = ((decide (x < 0) != decide (y < 0)) && (decide (u < 0) != decide (v < 0))) := by
  rw [i64_and_neg _ _ (i64_xor_range _ _).1 (i64_xor_range _ _).2 (i64_xor_range _ _).1 (i64_xor_range _ _).2, i64_xor_neg x y hx.1 hx.2 hy.1 hy.2, i64_xor_neg u v hu.1 hu.2 hv.1 hv.2]
theorem wrap64_range (n : Int) : -9223372036854775808 ≤ wrap64 n ∧ wrap64 n ≤ 9223372036854775807 := by unfold wrap64; omega
theorem add_test_yes (a b : Int) (h1 : -9223372036854775808 ≤ a) (h2 : a ≤ 9223372036854775807) (h3 : -9223372036854775808 ≤ b) (h4 : b ≤ 9223372036854775807) (h5 : -9223372036854775808 ≤ a + b) (h6 : a + b ≤ 9223372036854775807) :
    ¬ bits .and .i64 (bits .xor .i64 a (a + b)) (bits .xor .i64 b (a + b)) < 0 := by
  have h := and_xor_neg a (a + b) b (a + b) ⟨h1, h2⟩ ⟨h5, h6⟩ ⟨h3, h4⟩ ⟨h5, h6⟩
  intro hn
  rw [decide_eq_true hn] at h
  have h := h.symm
  simp only [Bool.and_eq_true, bne_iff_ne, ne_eq, decide_eq_decide] at h
  omega
theorem add_test_no (a b : Int) (h1 : -9223372036854775808 ≤ a) (h2 : a ≤ 9223372036854775807) (h3 : -9223372036854775808 ≤ b) (h4 : b ≤ 9223372036854775807) (h5 : a + b < -9223372036854775808 ∨ 9223372036854775807 < a + b) :
    bits .and .i64 (bits .xor .i64 a (wrap64 (a + b))) (bits .xor .i64 b (wrap64 (a + b))) < 0 := by
  have h := and_xor_neg a (wrap64 (a + b)) b (wrap64 (a + b)) ⟨h1, h2⟩ (wrap64_range _) ⟨h3, h4⟩ (wrap64_range _)
  apply of_decide_eq_true
  rw [h]
  simp only [Bool.and_eq_true, bne_iff_ne, ne_eq, decide_eq_decide]
  unfold wrap64
  omega
end Go.Proofs.YtigikgphipebiaaGreatDoor
/- Plain facts on digits of base 1000, the lowest first; nothing of the program. -/
namespace Go.Proofs.YtigikgphipebiaaGreatDoor
set_option maxRecDepth 100000
open Go.RowKit
/-- The number of the first n digits. -/
def valN (a : List Int) : Nat → Int
  | 0 => 0
  | n + 1 => valN a n + a.getD n 0 * 1000 ^ n
def val (a : List Int) : Int := valN a a.length
def Dig (a : List Int) : Prop := ∀ x ∈ a, 0 ≤ x ∧ x ≤ 999
theorem Dig.getD {a : List Int} (h : Dig a) (i : Nat) : 0 ≤ a.getD i 0 ∧ a.getD i 0 ≤ 999 := by
  by_cases hi : i < a.length
  · have e : a.getD i 0 = a[i] := by simp [List.getD, hi]
    rw [e]; exact h _ (List.getElem_mem hi)
  · have e : a.getD i 0 = 0 := by simp [List.getD, Nat.le_of_not_lt hi]
    rw [e]; omega
theorem getD_past {a : List Int} {i : Nat} (h : a.length ≤ i) : a.getD i 0 = 0 := by simp [List.getD, h]
theorem p_pos (n : Nat) : (0 : Int) < 1000 ^ n := Int.pow_pos (by decide)
theorem p_succ (n : Nat) : (1000 : Int) ^ (n + 1) = 1000 ^ n * 1000 := Int.pow_succ ..
theorem p_mono {m n : Nat} (h : m ≤ n) : (1000 : Int) ^ m ≤ 1000 ^ n := by
  induction n with
  | zero => have : m = 0 := by omega
            subst this; exact Int.le_refl _
  | succ n ih =>
    by_cases e : m = n + 1
    · subst e; exact Int.le_refl _
    · have := ih (by omega); have := p_pos n; rw [p_succ]; omega
theorem valN_range {a : List Int} (h : Dig a) (n : Nat) : 0 ≤ valN a n ∧ valN a n < 1000 ^ n := by
  induction n with
  | zero => simp [valN]
  | succ n ih =>
    have hd := h.getD n
    have hp := p_pos n
    rw [valN, p_succ]
    have h1 : 0 ≤ a.getD n 0 * 1000 ^ n := Int.mul_nonneg hd.1 (by omega)
    have h2 : a.getD n 0 * 1000 ^ n ≤ 999 * 1000 ^ n := Int.mul_le_mul_of_nonneg_right hd.2 (by omega)
    omega
theorem valN_past (a : List Int) {n : Nat} (hn : a.length ≤ n) : valN a n = val a := by
  induction n with
  | zero => have : a.length = 0 := by omega
            simp [val, this]
  | succ n ih =>
    by_cases e : a.length = n + 1
    · rw [val, e]
    · rw [valN, ih (by omega), getD_past (by omega)]; omega
theorem val_nil : val [] = 0 := rfl
theorem val_range {a : List Int} (h : Dig a) : 0 ≤ val a ∧ val a < 1000 ^ a.length := valN_range h _
theorem valN_congr {a b : List Int} {n : Nat} (h : ∀ i, i < n → a.getD i 0 = b.getD i 0) : valN a n = valN b n := by
  induction n with
  | zero => rfl
  | succ n ih => rw [valN, valN, ih (fun i hi => h i (by omega)), h n (by omega)]
theorem valN_snoc_lt (a : List Int) (x : Int) {n : Nat} (h : n ≤ a.length) : valN (a ++ [x]) n = valN a n :=
  valN_congr (fun i hi => by simp [List.getD, List.getElem?_append, show i < a.length from by omega])
theorem val_snoc (a : List Int) (x : Int) : val (a ++ [x]) = val a + x * 1000 ^ a.length := by
  rw [val, List.length_append, List.length_singleton, valN, valN_snoc_lt _ _ (Nat.le_refl _)]
  have : (a ++ [x]).getD a.length 0 = x := by simp [List.getD]
  rw [this]; rfl
theorem Dig.snoc {a : List Int} (h : Dig a) {x : Int} (h1 : 0 ≤ x) (h2 : x ≤ 999) : Dig (a ++ [x]) := by
  intro y hy
  rcases List.mem_append.1 hy with hy | hy
  · exact h y hy
  · simp at hy; subst hy; exact ⟨h1, h2⟩
theorem Dig.nil : Dig [] := fun _ h => by cases h
theorem Dig.take {a : List Int} (h : Dig a) (n : Nat) : Dig (a.take n) := fun x hx => h x (List.mem_of_mem_take hx)
/-- A step that carries: x is cut into a digit and what goes on. -/
theorem carry_step (x p : Int) : x % 1000 * p + x / 1000 * (p * 1000) = x * p := by
  have h : x = x % 1000 + x / 1000 * 1000 := by omega
  calc x % 1000 * p + x / 1000 * (p * 1000) = (x % 1000 + x / 1000 * 1000) * p := by rw [Int.add_mul, Int.mul_assoc (x / 1000) 1000 p, Int.mul_comm 1000 p]
    _ = x * p := by rw [← h]
/-- Where all digits from n on are alike, the numbers differ as their first n digits do. -/
theorem val_same_top {a b : List Int} {n : Nat} (h : ∀ i, n ≤ i → a.getD i 0 = b.getD i 0) : val a - valN a n = val b - valN b n := by
  have key : ∀ m, n ≤ m → valN a m - valN a n = valN b m - valN b n := by
    intro m
    induction m with
    | zero => intro hm; have : n = 0 := by omega
              subst this; rfl
    | succ m ih =>
      intro hm
      by_cases e : n = m + 1
      · subst e; omega
      · have := ih (by omega)
        rw [valN, valN, h m (by omega)]; omega
  have h1 := key (max n (max a.length b.length)) (by omega)
  rw [valN_past a (by omega), valN_past b (by omega)] at h1
  exact h1
theorem val_eq_of_same {a b : List Int} (h : ∀ i, a.getD i 0 = b.getD i 0) : val a = val b := by
  have := val_same_top (n := 0) (a := a) (b := b) (fun i _ => h i)
  simp only [valN] at this; omega
theorem val_lt_of_digit {a b : List Int} (ha : Dig a) (hb : Dig b) {n : Nat} (h : ∀ i, n + 1 ≤ i → a.getD i 0 = b.getD i 0) (hl : a.getD n 0 < b.getD n 0) : val a < val b := by
  have h1 := val_same_top h
  have h2 := valN_range ha n
  have h3 := valN_range hb n
  rw [valN, valN] at h1
  have h4 : (a.getD n 0 + 1) * 1000 ^ n ≤ b.getD n 0 * 1000 ^ n := Int.mul_le_mul_of_nonneg_right (by omega) (Int.le_of_lt (p_pos n))
  rw [Int.add_mul] at h4
  omega
/-- -1, 0, 1: less, the same, greater. -/
def cmpI (x y : Int) : Int := if x < y then -1 else if x = y then 0 else 1
theorem cmpI_lt {x y : Int} (h : x < y) : cmpI x y = -1 := by simp [cmpI, h]
theorem cmpI_eq {x y : Int} (h : x = y) : cmpI x y = 0 := by simp [cmpI, h]
theorem cmpI_gt {x y : Int} (h : y < x) : cmpI x y = 1 := by
  have h1 : ¬ x < y := by omega
  have h2 : ¬ x = y := by omega
  simp [cmpI, h1, h2]
theorem cmpI_ge {x y : Int} : 0 ≤ cmpI x y ↔ y ≤ x := by unfold cmpI; split <;> (try split) <;> omega
theorem cmpI_le {x y : Int} : cmpI x y ≤ 0 ↔ x ≤ y := by unfold cmpI; split <;> (try split) <;> omega
/-- The digits above the number's own size are noughts. -/
theorem valN_of_lt {a : List Int} (h : Dig a) {n : Nat} (hv : val a < 1000 ^ n) : valN a n = val a := by
  by_cases hn : a.length ≤ n
  · exact valN_past a hn
  · have key : ∀ m, n ≤ m → valN a m < 1000 ^ n → valN a m = valN a n := by
      intro m
      induction m with
      | zero => intro hm _; have : n = 0 := by omega
                subst this; rfl
      | succ m ih =>
        intro hm hlt
        by_cases e : n = m + 1
        · rw [e]
        · rw [valN] at hlt ⊢
          have hd := h.getD m
          have hr := valN_range h m
          have hp := p_pos m
          have hq := p_mono (m := n) (n := m) (by omega)
          have hz : a.getD m 0 = 0 := by
            by_cases e0 : a.getD m 0 = 0
            · exact e0
            · exfalso
              have : 1 * 1000 ^ m ≤ a.getD m 0 * 1000 ^ m := Int.mul_le_mul_of_nonneg_right (by omega) (Int.le_of_lt hp)
              omega
          rw [hz] at hlt ⊢
          have := ih (by omega) (by omega)
          omega
    exact (key a.length (by omega) hv).symm
/-- No noughts at the end. -/
def Tidy (a : List Int) : Prop := a = [] ∨ a.getD (a.length - 1) 0 ≠ 0
theorem Tidy.size {a : List Int} (ht : Tidy a) (hd : Dig a) (hne : a ≠ []) : 1000 ^ (a.length - 1) ≤ val a := by
  have h0 := ht.resolve_left hne
  have hl : 0 < a.length := List.length_pos_iff.2 hne
  have e : a.length = (a.length - 1) + 1 := by omega
  have h1 := (hd.getD (a.length - 1))
  have h2 := (valN_range hd (a.length - 1)).1
  have h3 : 1 * 1000 ^ (a.length - 1) ≤ a.getD (a.length - 1) 0 * 1000 ^ (a.length - 1) := Int.mul_le_mul_of_nonneg_right (by omega) (Int.le_of_lt (p_pos _))
  have h4 : val a = valN a (a.length - 1) + a.getD (a.length - 1) 0 * 1000 ^ (a.length - 1) := by
    conv => lhs; rw [val, e]
    rfl
  omega
theorem Tidy.len {a : List Int} (ht : Tidy a) (hd : Dig a) {n : Nat} (hv : val a < 1000 ^ n) : a.length ≤ n := by
  by_cases hne : a = []
  · subst hne; simp
  · have h := ht.size hd hne
    by_cases hn : a.length ≤ n
    · exact hn
    · have := p_mono (m := n) (n := a.length - 1) (by omega)
      omega
theorem Tidy.zero {a : List Int} (ht : Tidy a) (hd : Dig a) : val a = 0 ↔ a = [] := by
  constructor
  · intro h
    by_cases hne : a = []
    · exact hne
    · have := ht.size hd hne
      have := p_pos (a.length - 1)
      omega
  · intro h; subst h; rfl
theorem Tidy.pos {a : List Int} (ht : Tidy a) (hd : Dig a) (hne : a ≠ []) : 0 < val a := by
  have := ht.size hd hne
  have := p_pos (a.length - 1)
  omega
theorem getD_take {a : List Int} {n i : Nat} (h : i < n) : (a.take n).getD i 0 = a.getD i 0 := by
  simp [List.getD, h]
/-- Noughts cut off. -/
theorem val_take {a : List Int} {n : Nat} (hn : n ≤ a.length) (h : ∀ i, n ≤ i → a.getD i 0 = 0) : val (a.take n) = val a := by
  refine val_eq_of_same (fun i => ?_)
  by_cases hi : i < n
  · exact getD_take hi
  · rw [h i (by omega), getD_past (by rw [List.length_take]; omega)]
theorem tidy_take {a : List Int} {n : Nat} (hn : n ≤ a.length) (h : n = 0 ∨ a.getD (n - 1) 0 ≠ 0) : Tidy (a.take n) := by
  rcases h with rfl | h
  · exact .inl rfl
  · by_cases h0 : n = 0
    · subst h0; exact .inl rfl
    · refine .inr ?_
      have : (a.take n).length = n := by rw [List.length_take]; omega
      rw [this, getD_take (by omega)]; exact h
end Go.Proofs.YtigikgphipebiaaGreatDoor
/- Plain facts on words of 32 bits, the lowest first; nothing of the program. -/
namespace Go.Proofs.YtigikgphipebiaaGreatDoor
set_option maxRecDepth 100000
open Go.RowKit
set_option linter.unusedVariables false
/-- The number of the first n digits. -/
def wvN (a : List Int) : Nat → Int
  | 0 => 0
  | n + 1 => wvN a n + a.getD n 0 * 4294967296 ^ n
def wv (a : List Int) : Int := wvN a a.length
def Wd (a : List Int) : Prop := ∀ x ∈ a, 0 ≤ x ∧ x ≤ 4294967295
theorem Wd.getD {a : List Int} (h : Wd a) (i : Nat) : 0 ≤ a.getD i 0 ∧ a.getD i 0 ≤ 4294967295 := by
  by_cases hi : i < a.length
  · have e : a.getD i 0 = a[i] := by simp [List.getD, hi]
    rw [e]; exact h _ (List.getElem_mem hi)
  · have e : a.getD i 0 = 0 := by simp [List.getD, Nat.le_of_not_lt hi]
    rw [e]; omega
theorem q_pos (n : Nat) : (0 : Int) < 4294967296 ^ n := Int.pow_pos (by decide)
theorem q_succ (n : Nat) : (4294967296 : Int) ^ (n + 1) = 4294967296 ^ n * 4294967296 := Int.pow_succ ..
theorem q_mono {m n : Nat} (h : m ≤ n) : (4294967296 : Int) ^ m ≤ 4294967296 ^ n := by
  induction n with
  | zero => have : m = 0 := by omega
            subst this; exact Int.le_refl _
  | succ n ih =>
    by_cases e : m = n + 1
    · subst e; exact Int.le_refl _
    · have := ih (by omega); have := q_pos n; rw [q_succ]; omega
theorem wvN_range {a : List Int} (h : Wd a) (n : Nat) : 0 ≤ wvN a n ∧ wvN a n < 4294967296 ^ n := by
  induction n with
  | zero => simp [wvN]
  | succ n ih =>
    have hd := h.getD n
    have hp := q_pos n
    rw [wvN, q_succ]
    have h1 : 0 ≤ a.getD n 0 * 4294967296 ^ n := Int.mul_nonneg hd.1 (by omega)
    have h2 : a.getD n 0 * 4294967296 ^ n ≤ 4294967295 * 4294967296 ^ n := Int.mul_le_mul_of_nonneg_right hd.2 (by omega)
    omega
theorem wvN_past (a : List Int) {n : Nat} (hn : a.length ≤ n) : wvN a n = wv a := by
  induction n with
  | zero => have : a.length = 0 := by omega
            simp [wv, this]
  | succ n ih =>
    by_cases e : a.length = n + 1
    · rw [wv, e]
    · rw [wvN, ih (by omega), getD_past (by omega)]; omega
theorem wv_nil : wv [] = 0 := rfl
theorem wv_range {a : List Int} (h : Wd a) : 0 ≤ wv a ∧ wv a < 4294967296 ^ a.length := wvN_range h _
theorem wvN_congr {a b : List Int} {n : Nat} (h : ∀ i, i < n → a.getD i 0 = b.getD i 0) : wvN a n = wvN b n := by
  induction n with
  | zero => rfl
  | succ n ih => rw [wvN, wvN, ih (fun i hi => h i (by omega)), h n (by omega)]
theorem wvN_snoc_lt (a : List Int) (x : Int) {n : Nat} (h : n ≤ a.length) : wvN (a ++ [x]) n = wvN a n :=
  wvN_congr (fun i hi => by simp [List.getD, List.getElem?_append, show i < a.length from by omega])
theorem wv_snoc (a : List Int) (x : Int) : wv (a ++ [x]) = wv a + x * 4294967296 ^ a.length := by
  rw [wv, List.length_append, List.length_singleton, wvN, wvN_snoc_lt _ _ (Nat.le_refl _)]
  have : (a ++ [x]).getD a.length 0 = x := by simp [List.getD]
  rw [this]; rfl
theorem Wd.snoc {a : List Int} (h : Wd a) {x : Int} (h1 : 0 ≤ x) (h2 : x ≤ 4294967295) : Wd (a ++ [x]) := by
  intro y hy
  rcases List.mem_append.1 hy with hy | hy
  · exact h y hy
  · simp at hy; subst hy; exact ⟨h1, h2⟩
theorem Wd.nil : Wd [] := fun _ h => by cases h
theorem Wd.take {a : List Int} (h : Wd a) (n : Nat) : Wd (a.take n) := fun x hx => h x (List.mem_of_mem_take hx)
/-- A step that carries: x is cut into a digit and what goes on. -/
theorem wcarry_step (x p : Int) : x % 4294967296 * p + x / 4294967296 * (p * 4294967296) = x * p := by
  have h : x = x % 4294967296 + x / 4294967296 * 4294967296 := by omega
  calc x % 4294967296 * p + x / 4294967296 * (p * 4294967296) = (x % 4294967296 + x / 4294967296 * 4294967296) * p := by rw [Int.add_mul, Int.mul_assoc (x / 4294967296) 4294967296 p, Int.mul_comm 4294967296 p]
    _ = x * p := by rw [← h]
/-- Where all digits from n on are alike, the numbers differ as their first n digits do. -/
theorem wv_same_top {a b : List Int} {n : Nat} (h : ∀ i, n ≤ i → a.getD i 0 = b.getD i 0) : wv a - wvN a n = wv b - wvN b n := by
  have key : ∀ m, n ≤ m → wvN a m - wvN a n = wvN b m - wvN b n := by
    intro m
    induction m with
    | zero => intro hm; have : n = 0 := by omega
              subst this; rfl
    | succ m ih =>
      intro hm
      by_cases e : n = m + 1
      · subst e; omega
      · have := ih (by omega)
        rw [wvN, wvN, h m (by omega)]; omega
  have h1 := key (max n (max a.length b.length)) (by omega)
  rw [wvN_past a (by omega), wvN_past b (by omega)] at h1
  exact h1
theorem wv_eq_of_same {a b : List Int} (h : ∀ i, a.getD i 0 = b.getD i 0) : wv a = wv b := by
  have := wv_same_top (n := 0) (a := a) (b := b) (fun i _ => h i)
  simp only [wvN] at this; omega
theorem wv_lt_of_digit {a b : List Int} (ha : Wd a) (hb : Wd b) {n : Nat} (h : ∀ i, n + 1 ≤ i → a.getD i 0 = b.getD i 0) (hl : a.getD n 0 < b.getD n 0) : wv a < wv b := by
  have h1 := wv_same_top h
  have h2 := wvN_range ha n
  have h3 := wvN_range hb n
  rw [wvN, wvN] at h1
  have h4 : (a.getD n 0 + 1) * 4294967296 ^ n ≤ b.getD n 0 * 4294967296 ^ n := Int.mul_le_mul_of_nonneg_right (by omega) (Int.le_of_lt (q_pos n))
  rw [Int.add_mul] at h4
  omega
/-- The digits above the number's own size are noughts. -/
theorem wvN_of_lt {a : List Int} (h : Wd a) {n : Nat} (hv : wv a < 4294967296 ^ n) : wvN a n = wv a := by
  by_cases hn : a.length ≤ n
  · exact wvN_past a hn
  · have key : ∀ m, n ≤ m → wvN a m < 4294967296 ^ n → wvN a m = wvN a n := by
      intro m
      induction m with
      | zero => intro hm _; have : n = 0 := by omega
                subst this; rfl
      | succ m ih =>
        intro hm hlt
        by_cases e : n = m + 1
        · rw [e]
        · rw [wvN] at hlt ⊢
          have hd := h.getD m
          have hr := wvN_range h m
          have hp := q_pos m
          have hq := q_mono (m := n) (n := m) (by omega)
          have hz : a.getD m 0 = 0 := by
            by_cases e0 : a.getD m 0 = 0
            · exact e0
            · exfalso
              have : 1 * 4294967296 ^ m ≤ a.getD m 0 * 4294967296 ^ m := Int.mul_le_mul_of_nonneg_right (by omega) (Int.le_of_lt hp)
              omega
          rw [hz] at hlt ⊢
          have := ih (by omega) (by omega)
          omega
    exact (key a.length (by omega) hv).symm
theorem Tidy.wsize {a : List Int} (ht : Tidy a) (hd : Wd a) (hne : a ≠ []) : 4294967296 ^ (a.length - 1) ≤ wv a := by
  have h0 := ht.resolve_left hne
  have hl : 0 < a.length := List.length_pos_iff.2 hne
  have e : a.length = (a.length - 1) + 1 := by omega
  have h1 := (hd.getD (a.length - 1))
  have h2 := (wvN_range hd (a.length - 1)).1
  have h3 : 1 * 4294967296 ^ (a.length - 1) ≤ a.getD (a.length - 1) 0 * 4294967296 ^ (a.length - 1) := Int.mul_le_mul_of_nonneg_right (by omega) (Int.le_of_lt (q_pos _))
  have h4 : wv a = wvN a (a.length - 1) + a.getD (a.length - 1) 0 * 4294967296 ^ (a.length - 1) := by
    conv => lhs; rw [wv, e]
    rfl
  omega
theorem Tidy.wlen {a : List Int} (ht : Tidy a) (hd : Wd a) {n : Nat} (hv : wv a < 4294967296 ^ n) : a.length ≤ n := by
  by_cases hne : a = []
  · subst hne; simp
  · have h := ht.wsize hd hne
    by_cases hn : a.length ≤ n
    · exact hn
    · have := q_mono (m := n) (n := a.length - 1) (by omega)
      omega
theorem Tidy.wzero {a : List Int} (ht : Tidy a) (hd : Wd a) : wv a = 0 ↔ a = [] := by
  constructor
  · intro h
    by_cases hne : a = []
    · exact hne
    · have := ht.wsize hd hne
      have := q_pos (a.length - 1)
      omega
  · intro h; subst h; rfl
theorem Tidy.wpos {a : List Int} (ht : Tidy a) (hd : Wd a) (hne : a ≠ []) : 0 < wv a := by
  have := ht.wsize hd hne
  have := q_pos (a.length - 1)
  omega
/-- Noughts cut off. -/
theorem wv_take {a : List Int} {n : Nat} (hn : n ≤ a.length) (h : ∀ i, n ≤ i → a.getD i 0 = 0) : wv (a.take n) = wv a := by
  refine wv_eq_of_same (fun i => ?_)
  by_cases hi : i < n
  · exact getD_take hi
  · rw [h i (by omega), getD_past (by rw [List.length_take]; omega)]
end Go.Proofs.YtigikgphipebiaaGreatDoor
/- A slice value that reads as a list of integers; nothing of the program. -/
namespace Go.Proofs.YtigikgphipebiaaGreatDoor
set_option maxRecDepth 100000
open Go.RowKit
/-- A slice value reads as these numbers: where there is one, its cells stand in a block from there on. -/
def Ints (k : IntKind) (w : World) (v : Value) (zs : List Int) : Prop :=
  ∃ a cap, v = .slice a zs.length cap ∧ zs.length ≤ cap ∧ (zs = [] ∨ ∃ b off, a = some ⟨b, off, none⟩ ∧ b < w.heap.size ∧ ∀ i, i < zs.length → w.cell? ⟨b, off + i, none⟩ = some (.int k (zs.getD i 0)))
end Go.Proofs.YtigikgphipebiaaGreatDoor
