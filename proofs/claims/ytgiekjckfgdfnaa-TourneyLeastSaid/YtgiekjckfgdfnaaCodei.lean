/- The program's GetF and GetT. -/
import Derived.Test.YtgiekjckfgdfnaaCodee
import Derived.Laws.BytesArg
namespace Go.Proofs.Ytgiekjckfgdfnaa
set_option maxRecDepth 100000
open Go.RowKit
set_option linter.unusedVariables false
def spanV (first last : Int) : Value := .agg #[.int .u64 first, .int .u64 last]
theorem gr_range {n : Nat} (hn : n ≤ 8) : 0 ≤ grN n ∧ grN n ≤ 18446744073709551615 := by
  have h : n = 0 ∨ n = 1 ∨ n = 2 ∨ n = 3 ∨ n = 4 ∨ n = 5 ∨ n = 6 ∨ n = 7 ∨ n = 8 := by omega
  rcases h with rfl | rfl | rfl | rfl | rfl | rfl | rfl | rfl | rfl <;> decide
theorem gr_step {n : Nat} (hn : n < 8) : grN n + 1 ≤ 18446744073709551615 := by
  have h : n = 0 ∨ n = 1 ∨ n = 2 ∨ n = 3 ∨ n = 4 ∨ n = 5 ∨ n = 6 ∨ n = 7 := by omega
  rcases h with rfl | rfl | rfl | rfl | rfl | rfl | rfl | rfl <;> decide
set_option maxRecDepth 100000
open Go.RowKit
set_option linter.unusedVariables false
theorem or8 {a c : Int} (a0 : 0 ≤ a) (a1 : a * 256 + 255 ≤ 18446744073709551615) (c0 : 0 ≤ c) (c1 : c ≤ 255) : bits .or .u64 (a * 256) c = a * 256 + c := by
  obtain ⟨A, rfl⟩ := Int.eq_ofNat_of_zero_le a0
  obtain ⟨C, rfl⟩ := Int.eq_ofNat_of_zero_le c0
  have := or_sum64 A C 8 (by omega) (by omega)
  have e : ((2 ^ 8 * A : Nat) : Int) = (A : Int) * 256 := by push_cast; omega
  rw [e] at this
  rw [this]; push_cast; omega
theorem fill_next {t : List Int} {f c : Int} {k n : Nat} (ht : Bt t) (f0 : 0 ≤ f) (f1 : f ≤ 255) (hk : k < n) (hn : n ≤ 8) (hc : t.getD k f = c) :
    fillN t f (k + 1) = fillN t f k * 256 + c ∧ 0 ≤ fillN t f k ∧ fillN t f k * 256 + 255 ≤ 18446744073709551615 ∧ 0 ≤ c ∧ c ≤ 255 := by
  have h := fill_range ht f0 f1 k
  have h2 : (256 : Int) ^ k ≤ 256 ^ 7 := by
    have : 256 ^ k ≤ 256 ^ 7 := Nat.pow_le_pow_right (by decide) (by omega)
    exact_mod_cast this
  have h7 : (256 : Int) ^ 7 = 72057594037927936 := by decide
  rw [h7] at h2
  have h3 := ht.getD f0 f1 k
  rw [hc] at h3
  refine ⟨by rw [fillN, hc], h.1, by omega, h3.1, h3.2⟩
/-- A list of spans. -/
def Spans (w : World) (v : Value) (ls : List (Int × Int)) : Prop :=
  ∃ b, v = .slice (some ⟨b, 0, none⟩) ls.length ls.length ∧ b < w.heap.size ∧ ∀ i, i < ls.length → w.cell? ⟨b, i * 2, none⟩ = some (.int .u64 (ls.getD i (0, 0)).1) ∧ w.cell? ⟨b, i * 2 + 1, none⟩ = some (.int .u64 (ls.getD i (0, 0)).2)
def numL (t : List Int) (n : Nat) (ls : List (Int × Int)) : Int × Nat :=
  if ls.any (fun s => meetB (fillN t 0 n) (fillN t 255 n) s.1 s.2) then (if t.length < n then (0, 5) else (fillN t 0 n, 0)) else (0, 6)
theorem numL_one (t : List Int) (n : Nat) (f l : Int) : numL t n [(f, l)] = num1 t n f l := by simp [numL, num1]
theorem numL_two (t : List Int) (n : Nat) (f l f2 l2 : Int) : numL t n [(f, l), (f2, l2)] = num2 t n f l f2 l2 := by simp [numL, num2]
theorem hB1_size {w w1 : World} (h : Below w.heap.size w w1) : w.heap.size ≤ w1.heap.size := h.size
theorem any_next (p : Int × Int → Bool) (ls : List (Int × Int)) {k : Nat} (h : k < ls.length) : (ls.take (k + 1)).any p = ((ls.take k).any p || p ((ls.getD k (0, 0)).1, (ls.getD k (0, 0)).2)) := by
  rw [List.take_succ_eq_append_getElem h, List.any_append, List.getD, List.getElem?_eq_getElem h]
  simp
theorem any_take {p : Int × Int → Bool} {ls : List (Int × Int)} {k : Nat} (h : (ls.take k).any p = true) : ls.any p = true := by
  rw [List.any_eq_true] at h ⊢
  obtain ⟨x, hx, hp⟩ := h
  exact ⟨x, List.mem_of_mem_take hx, hp⟩
set_option maxRecDepth 100000
open Go.RowKit
set_option linter.unusedVariables false
theorem ints_tail {w : World} {b off len cap : Nat} {h : Int} {t : List Int} (hv : Ints .u8 w (.slice (some ⟨b, off, none⟩) len cap) (h :: t)) : Ints .u8 w (.slice (if cap = 1 then some ⟨b, off, none⟩ else some ⟨b, off + 1, none⟩) t.length (cap - 1)) t := by
  obtain ⟨a, c, e, hc, hh⟩ := hv
  cases e
  simp only [List.length_cons] at hc
  refine ⟨_, _, rfl, by omega, ?_⟩
  rcases hh with h0 | ⟨b', off', e, hb, hcell⟩
  · cases h0
  · cases e
    by_cases h1 : cap = 1
    · left
      exact List.length_eq_zero_iff.1 (by omega)
    · right
      rw [if_neg h1]
      refine ⟨b, off + 1, rfl, hb, fun i hi => ?_⟩
      have := hcell (i + 1) (by simp; omega)
      rw [List.getD_cons_succ] at this
      rw [← this]
      congr 2; omega
def cntd (n : Nat) (r : Int × Nat) : Int × Nat × Nat := if r.2 = 0 then (r.1, 1 + n, 0) else (0, 0, r.2)
def trip (r : Int × Nat × Nat) : Value := .tuple #[.int .u64 r.1, .int .i64 (r.2.1 : Nat), .int .i64 (r.2.2 : Nat)]
theorem need_range {n : Nat} (hn : n ≤ 8) {most : Int} (h0 : 0 ≤ most) : 0 ≤ needF n ∧ needF n ≤ grN n ∧ 0 ≤ needL n most ∧ needL n most ≤ grN n ∧ needL n most ≤ most := by
  have h : n = 0 ∨ n = 1 ∨ n = 2 ∨ n = 3 ∨ n = 4 ∨ n = 5 ∨ n = 6 ∨ n = 7 ∨ n = 8 := by omega
  rcases h with rfl | rfl | rfl | rfl | rfl | rfl | rfl | rfl | rfl <;> simp [needF, needL, grN] <;> omega
theorem num1_ok {t : List Int} {n : Nat} {f l : Int} (ht : Bt t) (h : (num1 t n f l).2 = 0) : (num1 t n f l).1 = fillN t 0 n ∧ fillN t 0 n ≤ l ∧ f ≤ fillN t 0 n := by
  unfold num1 meetB at h ⊢
  split at h
  · rename_i hm
    rw [if_pos hm]
    split at h
    · cases h
    · rename_i hl
      rw [if_neg hl]
      rw [Bool.and_eq_true, decide_eq_true_iff, decide_eq_true_iff] at hm
      have := fill_full (t := t) 255 n (by omega)
      exact ⟨rfl, hm.1, by omega⟩
  · cases h
theorem or_top {n : Nat} (hn : n ≤ 8) {x : Int} (h0 : 0 ≤ x) (h1 : x < 256 ^ n) : bits .or .u64 x (18446744073709551615 - grN n) = x + (18446744073709551615 - grN n) := by
  obtain ⟨X, rfl⟩ := Int.eq_ofNat_of_zero_le h0
  have h : n = 0 ∨ n = 1 ∨ n = 2 ∨ n = 3 ∨ n = 4 ∨ n = 5 ∨ n = 6 ∨ n = 7 ∨ n = 8 := by omega
  rcases h with rfl | rfl | rfl | rfl | rfl | rfl | rfl | rfl | rfl
  · have := or_sum64' 18446744073709551615 X 0 (by simp at h1; omega) (by simp at h1; omega)
    simpa [grN, Int.add_comm] using this
  · have := or_sum64' (2 ^ 56 - 1) X 8 (by simp at h1; omega) (by simp at h1; omega)
    simpa [grN, Int.add_comm] using this
  · have := or_sum64' (2 ^ 48 - 1) X 16 (by simp at h1; omega) (by simp at h1; omega)
    simpa [grN, Int.add_comm] using this
  · have := or_sum64' (2 ^ 40 - 1) X 24 (by simp at h1; omega) (by simp at h1; omega)
    simpa [grN, Int.add_comm] using this
  · have := or_sum64' (2 ^ 32 - 1) X 32 (by simp at h1; omega) (by simp at h1; omega)
    simpa [grN, Int.add_comm] using this
  · have := or_sum64' (2 ^ 24 - 1) X 40 (by simp at h1; omega) (by simp at h1; omega)
    simpa [grN, Int.add_comm] using this
  · have := or_sum64' (2 ^ 16 - 1) X 48 (by simp at h1; omega) (by simp at h1; omega)
    simpa [grN, Int.add_comm] using this
  · have := or_sum64' (2 ^ 8 - 1) X 56 (by simp at h1; omega) (by simp at h1; omega)
    simpa [grN, Int.add_comm] using this
  · have := or_sum64' 0 X 64 (by simp at h1; omega) (by simp at h1; omega)
    simpa [grN, Int.add_comm] using this
theorem ints_head {w : World} {v : Value} {h : Int} {t : List Int} (hv : Ints .u8 w v (h :: t)) : ∃ b off cap, v = .slice (some ⟨b, off, none⟩) (t.length + 1) cap ∧ t.length + 1 ≤ cap ∧ b < w.heap.size ∧ w.cell? ⟨b, off, none⟩ = some (.int .u8 h) := by
  obtain ⟨a, cap, rfl, hcap, hh⟩ := hv
  rcases hh with h0 | ⟨b, off, e, h1, hc⟩
  · cases h0
  · subst e
    exact ⟨b, off, cap, rfl, hcap, h1, by have := hc 0 (by simp); simpa using this⟩
def tripI (r : Int × Nat × Nat) : Value := .tuple #[.int .i64 r.1, .int .i64 (r.2.1 : Nat), .int .i64 (r.2.2 : Nat)]
set_option maxRecDepth 100000
open Go.RowKit
set_option linter.unusedVariables false
def strB (l : List Int) : ByteArray := ⟨(l.map fun x => UInt8.ofNat x.toNat).toArray⟩
theorem conv_ints {w : World} {v : Value} {l : List Int} (h : Ints .u8 w v l) (hb : Bt l) : (convert 24 9 v).run Try.prog w = .ok (.string (strB l)) w := by
  obtain ⟨a, cap, rfl, -, h0 | ⟨b, off, rfl, hbl, hcell⟩⟩ := h
  · subst h0
    show (convert 24 9 (.slice a 0 cap)).run Try.prog w = _
    rw [run_convert_bytes_string w 24 9 5 _ 0 cap Try.underlying24 Try.underlying5 Try.underlying9]
    cases a <;> simp [Conv.bytesToString, loadCells]
    all_goals rfl
  have hlen : (l.map fun x => UInt8.ofNat x.toNat).length = l.length := by simp
  have := run_convert_bytes_back (P := Try.prog) w 24 9 5 ⟨b, off, none⟩ cap (l.map fun x => UInt8.ofNat x.toNat) Try.underlying24 Try.underlying5 Try.underlying9 (fun j hj => by
    have hj2 : j < l.length := by simpa using hj
    have hc := hcell j hj2
    have hm := hb _ (List.getElem_mem hj2)
    have e : l.getD j 0 = (((l.map fun x => UInt8.ofNat x.toNat)[j]).toNat : Int) := by
      rw [List.getElem_map, UInt8.toNat_ofNat_of_lt' (by show _ < 256; omega), List.getD, List.getElem?_eq_getElem hj2]
      show l[j] = _
      omega
    rw [e] at hc
    by_cases h0 : j = 0
    · subst h0; simpa [Addr.add] using hc
    · simpa [Addr.add, h0] using hc)
  rw [hlen] at this
  exact this
theorem key_ninf : keyI 18442240474082181120 = 4503599627370495 := by decide
theorem key_pinf : keyI 9218868437227405312 = 18442240474082181120 := by decide
theorem key_nan : keyI 9221120237041090561 = 18446744073709551615 := by decide
/-- The keys are those of floats. -/
theorem keyed_from {k : Int} (h : Keyed k) : W64 (fromN k) ∧ keyI (fromN k) = k ∧ (k = 18446744073709551615 ∨ isNaNB (fromN k) = false) ∧ 0 ≤ k ∧ k ≤ 18446744073709551615 := by
  unfold Keyed at h
  by_cases e : k = 18446744073709551615
  · subst e
    refine ⟨by unfold fromN; rw [if_pos rfl]; unfold W64; decide, by unfold fromN; rw [if_pos rfl]; decide, .inl rfl, by decide, by decide⟩
  · have h' : 4503599627370495 ≤ k ∧ k ≤ 18442240474082181120 := by omega
    obtain ⟨h0, h1⟩ := h'
    unfold fromN
    rw [if_neg e]
    by_cases g : 9223372036854775808 ≤ k
    · rw [if_pos g]
      have hx : (k - 9223372036854775808).toNat < 9223372036854775808 ∧ (k - 9223372036854775808).toNat ≤ 9218868437227405312 ∧ (((k - 9223372036854775808).toNat : Nat) : Int) = k - 9223372036854775808 := by omega
      generalize (k - 9223372036854775808).toNat = x at *
      have hn : isNaNB x = false := by unfold isNaNB; rw [decide_eq_false_iff_not]; omega
      have hg : negB x = false := by unfold negB; rw [decide_eq_false_iff_not]; omega
      refine ⟨by unfold W64; omega, ?_, .inr hn, by omega, by omega⟩
      unfold keyI; rw [hn, hg]; simp only [Bool.false_eq_true, if_false]; omega
    · rw [if_neg g]
      have hx : 9223372036854775808 ≤ (18446744073709551615 - k).toNat ∧ (18446744073709551615 - k).toNat ≤ 18442240474082181120 ∧ (((18446744073709551615 - k).toNat : Nat) : Int) = 18446744073709551615 - k := by omega
      generalize (18446744073709551615 - k).toNat = x at *
      have hn : isNaNB x = false := by unfold isNaNB; rw [decide_eq_false_iff_not]; omega
      have hg : negB x = true := by unfold negB; rw [decide_eq_true_iff]; omega
      refine ⟨by unfold W64; omega, ?_, .inr hn, by omega, by omega⟩
      unfold keyI; rw [hn, hg]; simp only [Bool.false_eq_true, if_false, if_true]; omega
theorem keyed_key {x : Nat} (hx : W64 x) : Keyed (keyI x) := by
  unfold W64 at hx
  unfold keyI Keyed
  split
  · left; rfl
  · rename_i hn
    have hn : isNaNB x = false := by simpa using hn
    unfold isNaNB at hn
    rw [decide_eq_false_iff_not] at hn
    split
    · rename_i hg
      unfold negB at hg
      rw [decide_eq_true_iff] at hg
      right; omega
    · rename_i hg
      unfold negB at hg
      rw [decide_eq_true_iff] at hg
      right; omega
/-- What GetF returns. -/
def tripF (r : Int × Nat) : Value := if r.2 = 0 then .tuple #[.float .f64 (fromN r.1), .int .i64 8, .int .i64 0] else .tuple #[.float .f64 0, .int .i64 0, .int .i64 (r.2 : Nat)]
theorem getF_keyed {b : List Int} (h : (getF b).2 = 0) : Keyed (getF b).1 := by
  unfold getF at h ⊢
  split at h
  · rename_i hl
    rw [if_pos hl]
    split at h
    · rename_i hk; rw [if_pos hk]; exact hk
    · cases h
  · split at h <;> cases h
theorem drop_one {b : List Int} {k : Nat} (h : k < b.length) : b.drop k = b.getD k 0 :: b.drop (k + 1) := by
  rw [List.drop_eq_getElem_cons h, List.getD, List.getElem?_eq_getElem h]; rfl
theorem getT_past (b : List Int) (k : Nat) (acc : List Int) (i : Nat) (h : ¬ k + 1 < b.length) : getT (b.drop k) acc i = ([], 0, 5) := by
  by_cases hk : k < b.length
  · rw [drop_one hk, List.drop_of_length_le (by omega)]; exact getT_one _ _ _
  · rw [List.drop_of_length_le (by omega)]; exact getT_nil _ _
def tripT (r : List Int × Nat × Nat) : Value := .tuple #[.string (strB r.1), .int .i64 (r.2.1 : Nat), .int .i64 (r.2.2 : Nat)]
end Go.Proofs.Ytgiekjckfgdfnaa
