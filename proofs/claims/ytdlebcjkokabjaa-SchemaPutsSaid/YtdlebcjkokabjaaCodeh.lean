/- The program's decoders of integers. -/
import Derived.Test.YtdlebcjkokabjaaCodeg
namespace Go.Proofs.Ytdlebcjkokabjaa
set_option maxRecDepth 100000
open Go.RowKit
set_option linter.unusedVariables false
theorem ints_tail {w : World} {b off len cap : Nat} {h : Int} {t : List Int} (hv : Ints .u8 w (.slice (some ⟨b, off, none⟩) len cap) (h :: t)) : Ints .u8 w (.slice (if cap = 1 then some ⟨b, off, none⟩ else some ⟨b, off + 1, none⟩) t.length (cap - 1)) t := by
  obtain ⟨a, c, e, hc, hh⟩ := hv
  cases e
  simp only [List.length_cons] at hc
  refine ⟨_, _, rfl, by omega, ?_⟩
  rcases hh with h0 | ⟨b', off', e, hb, hcell⟩
  · cases h0
  · cases e
    by_cases h1 : cap = 1
    · left
      exact List.length_eq_zero_iff.1 (by omega)
    · right
      rw [if_neg h1]
      refine ⟨b, off + 1, rfl, hb, fun i hi => ?_⟩
      have := hcell (i + 1) (by simp; omega)
      rw [List.getD_cons_succ] at this
      rw [← this]
      congr 2; omega
theorem spans_at {w : World} {g : Nat} {f l : Int} (h : Box2 w g f l) (hg : g < w.heap.size) : Spans w (.slice (some ⟨g, 0, none⟩) 1 1) [(f, l)] := by
  refine ⟨_, rfl, hg, fun i hi => ?_⟩
  obtain rfl : i = 0 := by simpa using hi
  exact ⟨h.get.1, h.get.2.1⟩
def cntd (n : Nat) (r : Int × Nat) : Int × Nat × Nat := if r.2 = 0 then (r.1, 1 + n, 0) else (0, 0, r.2)
def trip (r : Int × Nat × Nat) : Value := .tuple #[.int .u64 r.1, .int .i64 (r.2.1 : Nat), .int .i64 (r.2.2 : Nat)]
set_option maxHeartbeats 8000000 in
theorem counted_any (v : Value) (h : Int) (t : List Int) (n : Nat) (f l : Int) (w : World) (hv : Ints .u8 w v (h :: t)) (ht : Bt t) (hn : n ≤ 8) (hl : t.length ≤ 1099511627775) :
    Calls Try.prog 94 #[v, .int .i64 n, spanV f l] w fun e w' => e = .returned (trip (cntd n (num1 t n f l))) ∧ Below w.heap.size w w' := by
  have HV := Lib.hid hv
  obtain ⟨a, cap, rfl, hcap, hh⟩ := hv
  obtain ⟨b, off, rfl, hb, -⟩ : ∃ b off, a = some ⟨b, off, none⟩ ∧ b < w.heap.size ∧ True := by
    rcases hh with h0 | ⟨b, off, e, h1, -⟩
    · cases h0
    · exact ⟨b, off, e, h1, trivial⟩
  clear hh
  simp only [List.length_cons] at hcap HV ⊢
  have HT := Lib.hid (fun w1 (hb : Below w.heap.size w w1) => ints_tail (HV.out.below hb))
  have HNm := Lib.hid (fun s w1 (hb : Below w.heap.size w w1) (hs : Spans w1 s [(f, l)]) => number_any _ s t n [(f, l)] w1 (HT.out w1 hb) ht hn (by omega) hs (by simp))
  simp only [numL_one] at HNm
  have HE := Lib.hid (show cntd n (num1 t n f l) = _ from rfl)
  have hr : (num1 t n f l).2 = 0 ∨ (num1 t n f l).2 ≠ 0 := by omega
  generalize num1 t n f l = r at *
  obtain ⟨x, e⟩ := r
  simp only at hr HNm
  unfold spanV
  have i1 : (0 : Int) ≤ (1 : Int) := by decide
  have i2 : (1 : Int) ≤ (t.length : Int) + 1 := by omega
  go_enter Try.func94, Try.ntmps94
  go_wp2_with fail
  have hB2 : Below w.heap.size w ((w.alloc (.cells #[.int .u64 f, .int .u64 l] 132)).alloc (.cells #[.int .u64 f, .int .u64 l] 132)).drew := ((below_one w _).alloc (by simp) _).drew
  have hS2 : Spans ((w.alloc (.cells #[.int .u64 f, .int .u64 l] 132)).alloc (.cells #[.int .u64 f, .int .u64 l] 132)).drew (.slice (some ⟨w.heap.size + 1, 0, none⟩) 1 1) [(f, l)] :=
    spans_at (by have := Box2.new (w.alloc (.cells #[.int .u64 f, .int .u64 l] 132)) f l; rw [World.size_alloc] at this; exact this) (by simp)
  have HB2 := Lib.hid hB2
  have HS2 := Lib.hid hS2
  clear hB2 hS2
  go_region_law (go_simp; go_at_call 101; refine (HNm.out _ _ HB2.out HS2.out).mono ?_; rintro e' w2 ⟨rfl, hb2⟩; have HB3 := Lib.hid (HB2.out.trans (hb2.mono HB2.out.size)); clear hb2)
  all_goals
    rcases hr with hr | hr
    · subst hr
      go_wp2_with fail
      all_goals exact bodyPost_ret (v := .tuple #[.int .u64 x, .int .i64 (1 + (n : Int)), .int .i64 0]) (by simp [results, Try.results94, go_sem]) rfl ⟨rfl, HB3.out⟩
    · have hne : ((e : Int) == 0) = false := by simp; omega
      go_wp2_with fail
      all_goals exact bodyPost_ret (v := .tuple #[.int .u64 0, .int .i64 0, .int .i64 (e : Int)]) (by simp [results, Try.results94, go_sem]) rfl ⟨by unfold cntd; rw [if_neg hr]; rfl, HB3.out⟩
theorem need_range {n : Nat} (hn : n ≤ 8) {most : Int} (h0 : 0 ≤ most) : 0 ≤ needF n ∧ needF n ≤ grN n ∧ 0 ≤ needL n most ∧ needL n most ≤ grN n ∧ needL n most ≤ most := by
  have h : n = 0 ∨ n = 1 ∨ n = 2 ∨ n = 3 ∨ n = 4 ∨ n = 5 ∨ n = 6 ∨ n = 7 ∨ n = 8 := by omega
  rcases h with rfl | rfl | rfl | rfl | rfl | rfl | rfl | rfl | rfl <;> simp [needF, needL, grN] <;> omega
theorem num1_ok {t : List Int} {n : Nat} {f l : Int} (ht : Bt t) (h : (num1 t n f l).2 = 0) : (num1 t n f l).1 = fillN t 0 n ∧ fillN t 0 n ≤ l ∧ f ≤ fillN t 0 n := by
  unfold num1 meetB at h ⊢
  split at h
  · rename_i hm
    rw [if_pos hm]
    split at h
    · cases h
    · rename_i hl
      rw [if_neg hl]
      rw [Bool.and_eq_true, decide_eq_true_iff, decide_eq_true_iff] at hm
      have := fill_full (t := t) 255 n (by omega)
      exact ⟨rfl, hm.1, by omega⟩
  · cases h
theorem or_top {n : Nat} (hn : n ≤ 8) {x : Int} (h0 : 0 ≤ x) (h1 : x < 256 ^ n) : bits .or .u64 x (18446744073709551615 - grN n) = x + (18446744073709551615 - grN n) := by
  obtain ⟨X, rfl⟩ := Int.eq_ofNat_of_zero_le h0
  have h : n = 0 ∨ n = 1 ∨ n = 2 ∨ n = 3 ∨ n = 4 ∨ n = 5 ∨ n = 6 ∨ n = 7 ∨ n = 8 := by omega
  rcases h with rfl | rfl | rfl | rfl | rfl | rfl | rfl | rfl | rfl
  · have := or_sum64' 18446744073709551615 X 0 (by simp at h1; omega) (by simp at h1; omega)
    simpa [grN, Int.add_comm] using this
  · have := or_sum64' (2 ^ 56 - 1) X 8 (by simp at h1; omega) (by simp at h1; omega)
    simpa [grN, Int.add_comm] using this
  · have := or_sum64' (2 ^ 48 - 1) X 16 (by simp at h1; omega) (by simp at h1; omega)
    simpa [grN, Int.add_comm] using this
  · have := or_sum64' (2 ^ 40 - 1) X 24 (by simp at h1; omega) (by simp at h1; omega)
    simpa [grN, Int.add_comm] using this
  · have := or_sum64' (2 ^ 32 - 1) X 32 (by simp at h1; omega) (by simp at h1; omega)
    simpa [grN, Int.add_comm] using this
  · have := or_sum64' (2 ^ 24 - 1) X 40 (by simp at h1; omega) (by simp at h1; omega)
    simpa [grN, Int.add_comm] using this
  · have := or_sum64' (2 ^ 16 - 1) X 48 (by simp at h1; omega) (by simp at h1; omega)
    simpa [grN, Int.add_comm] using this
  · have := or_sum64' (2 ^ 8 - 1) X 56 (by simp at h1; omega) (by simp at h1; omega)
    simpa [grN, Int.add_comm] using this
  · have := or_sum64' 0 X 64 (by simp at h1; omega) (by simp at h1; omega)
    simpa [grN, Int.add_comm] using this
theorem ints_head {w : World} {v : Value} {h : Int} {t : List Int} (hv : Ints .u8 w v (h :: t)) : ∃ b off cap, v = .slice (some ⟨b, off, none⟩) (t.length + 1) cap ∧ t.length + 1 ≤ cap ∧ b < w.heap.size ∧ w.cell? ⟨b, off, none⟩ = some (.int .u8 h) := by
  obtain ⟨a, cap, rfl, hcap, hh⟩ := hv
  rcases hh with h0 | ⟨b, off, e, h1, hc⟩
  · cases h0
  · subst e
    exact ⟨b, off, cap, rfl, hcap, h1, by have := hc 0 (by simp); simpa using this⟩
set_option maxHeartbeats 8000000 in
theorem pgetU_any (v : Value) (b : List Int) (w : World) (hv : Ints .u8 w v b) (hb : Bt b) (hl : b.length ≤ 1099511627775) :
    Calls Try.prog 89 #[v] w fun e w' => e = .returned (trip (getU b)) ∧ Below w.heap.size w w' := by
  cases b with
  | nil =>
    obtain ⟨a, cap, rfl, hcap, -⟩ := hv
    go_enter Try.func89, Try.ntmps89
    go_wp2_with fail
    exact bodyPost_ret (v := .tuple #[.int .u64 0, .int .i64 0, .int .i64 5]) (by simp [results, Try.results89, go_sem]) rfl ⟨rfl, Below.refl _ _⟩
  | cons h t =>
    have HV := Lib.hid hv
    obtain ⟨h0, h255⟩ := hb.head
    obtain ⟨b, off, cap, rfl, hcap, hbl, hcell⟩ := ints_head hv
    have i0 : ((t.length : Int) + 1 == 0) = false := by simp; omega
    have i1 : IntKind.i64.wrap h = h := IntWalk.i64_in _ (by omega)
    by_cases h8 : h ≤ 8
    · have i2 : ¬ (8 : Int) < h := by omega
      have hnum := getU_num hb.tail h0 h8
      have HE := Lib.hid (show getU (h :: t) = cntd h.toNat (num1 t h.toNat (needF h.toNat) (needL h.toNat 18446744073709551615)) from hnum)
      clear hnum
      obtain ⟨n, rfl⟩ := Int.eq_ofNat_of_zero_le h0
      simp only [Int.toNat_natCast] at HE
      have HN := Lib.hid (need_any n 18446744073709551615 w (by omega) (by decide) (by decide))
      have HC := Lib.hid (fun w1 (hb1 : Below w.heap.size w w1) => counted_any _ _ t n (needF n) (needL n 18446744073709551615) w1 (HV.out.below hb1) hb.tail (by omega) (by simp at hl; omega))
      clear hb hv
      go_enter Try.func89, Try.ntmps89
      go_wp2_with fail
      refine (HN.out).mono ?_; rintro e w1 ⟨rfl, hb1⟩
      have HB1 := Lib.hid hb1
      clear hb1
      go_wp2_with fail
      refine (HC.out _ HB1.out).mono ?_; rintro e w2 ⟨rfl, hb2⟩
      have HB2 := Lib.hid (HB1.out.trans (hb2.mono HB1.out.size))
      unfold trip
      rw [← HE.out]
      clear hb2
      generalize hr : getU ((n : Int) :: t) = r at *
      replace hr := Lib.hid hr
      go_wp2_with fail
      exact bodyPost_ret (v := .tuple #[.int .u64 r.1, .int .i64 (r.2.1 : Nat), .int .i64 (r.2.2 : Nat)]) (by simp [results, Try.results89, go_sem]) rfl ⟨by rw [hr.out]; rfl, HB2.out⟩
    · have i2 : (8 : Int) < h := by omega
      have HE := Lib.hid (show getU (h :: t) = (0, 0, 6) by rw [getU_cons, if_pos (.inl i2)])
      go_enter Try.func89, Try.ntmps89
      go_wp2_with fail
      exact bodyPost_ret (v := .tuple #[.int .u64 0, .int .i64 0, .int .i64 6]) (by simp [results, Try.results89, go_sem]) rfl ⟨by rw [HE.out]; rfl, Below.refl _ _⟩
def tripI (r : Int × Nat × Nat) : Value := .tuple #[.int .i64 r.1, .int .i64 (r.2.1 : Nat), .int .i64 (r.2.2 : Nat)]
end Go.Proofs.Ytdlebcjkokabjaa
