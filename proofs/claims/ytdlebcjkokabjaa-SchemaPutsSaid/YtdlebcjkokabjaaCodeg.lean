/- Which numbers begin with given bytes. -/
import Derived.Test.YtdlebcjkokabjaaCodef
namespace Go.Proofs.Ytdlebcjkokabjaa
set_option maxRecDepth 100000
open Go.RowKit
set_option linter.unusedVariables false
theorem or8 {a c : Int} (a0 : 0 ≤ a) (a1 : a * 256 + 255 ≤ 18446744073709551615) (c0 : 0 ≤ c) (c1 : c ≤ 255) : bits .or .u64 (a * 256) c = a * 256 + c := by
  obtain ⟨A, rfl⟩ := Int.eq_ofNat_of_zero_le a0
  obtain ⟨C, rfl⟩ := Int.eq_ofNat_of_zero_le c0
  have := or_sum64 A C 8 (by omega) (by omega)
  have e : ((2 ^ 8 * A : Nat) : Int) = (A : Int) * 256 := by push_cast; omega
  rw [e] at this
  rw [this]; push_cast; omega
def Box2 (w : World) (g : Nat) (a b : Int) : Prop := w.heap[g]? = some (.cells #[.int .u64 a, .int .u64 b] 132)
theorem Box2.get {w : World} {g : Nat} {a b : Int} (h : Box2 w g a b) : w.cell? ⟨g, 0, none⟩ = some (.int .u64 a) ∧ w.cell? ⟨g, 1, none⟩ = some (.int .u64 b) ∧ w.frozen? ⟨g, 0, none⟩ = false ∧ w.frozen? ⟨g, 1, none⟩ = false :=
  ⟨by rw [cell_of_row w g 0 _ _ _ h]; rfl, by rw [cell_of_row w g 1 _ _ _ h]; rfl, frozen_of_row w g 0 _ _ h, frozen_of_row w g 1 _ _ h⟩
theorem Box2.set0 {w : World} {g : Nat} {a b : Int} (h : Box2 w g a b) (x : Int) : Box2 (w.setCell ⟨g, 0, none⟩ (.int .u64 x)) g x b := heap_setCell_same w g 0 _ _ (.int .u64 x) h
theorem Box2.set1 {w : World} {g : Nat} {a b : Int} (h : Box2 w g a b) (x : Int) : Box2 (w.setCell ⟨g, 1, none⟩ (.int .u64 x)) g a x := heap_setCell_same w g 1 _ _ (.int .u64 x) h
theorem Box2.far {w : World} {g k j : Nat} {a b : Int} (h : Box2 w g a b) (hk : g ≠ k) (x : Value) : Box2 (w.setCell ⟨k, j, none⟩ x) g a b := by
  unfold Box2
  rw [heap_setCell_other w ⟨k, j, none⟩ g x hk]; exact h
theorem Box2.below {w w' : World} {g : Nat} {a b : Int} {B : Nat} (h : Box2 w g a b) (hb : Below B w w') (hg : g < B) : Box2 w' g a b := by
  unfold Box2
  rw [hb.block g hg]; exact h
theorem Box2.new (w : World) (a b : Int) : Box2 (w.alloc (.cells #[.int .u64 a, .int .u64 b] 132)) w.heap.size a b := heap_alloc_new w _
theorem fill_next {t : List Int} {f c : Int} {k n : Nat} (ht : Bt t) (f0 : 0 ≤ f) (f1 : f ≤ 255) (hk : k < n) (hn : n ≤ 8) (hc : t.getD k f = c) :
    fillN t f (k + 1) = fillN t f k * 256 + c ∧ 0 ≤ fillN t f k ∧ fillN t f k * 256 + 255 ≤ 18446744073709551615 ∧ 0 ≤ c ∧ c ≤ 255 := by
  have h := fill_range ht f0 f1 k
  have h2 : (256 : Int) ^ k ≤ 256 ^ 7 := by
    have : 256 ^ k ≤ 256 ^ 7 := Nat.pow_le_pow_right (by decide) (by omega)
    exact_mod_cast this
  have h7 : (256 : Int) ^ 7 = 72057594037927936 := by decide
  rw [h7] at h2
  have h3 := ht.getD f0 f1 k
  rw [hc] at h3
  refine ⟨by rw [fillN, hc], h.1, by omega, h3.1, h3.2⟩
set_option maxHeartbeats 8000000 in
theorem compls_any (v : Value) (t : List Int) (n : Nat) (w : World) (hv : Ints .u8 w v t) (ht : Bt t) (hn : n ≤ 8) (hl : t.length ≤ 1099511627776) :
    Calls Try.prog 104 #[v, .int .i64 n] w fun e w' => e = .returned (spanV (fillN t 0 n) (fillN t 255 n)) ∧ Below w.heap.size w w' := by
  have HV := Lib.hid hv
  obtain ⟨a, cap, rfl, hcap, -⟩ := hv
  go_enter Try.func104, Try.ntmps104
  go_wp2_with fail
  go_loopw [10] (fun i wr => ∃ k : Nat, k ≤ n ∧ i = .int .i64 k ∧ Hid (Box2 wr w.heap.size 0 0 ∧ Box2 wr (w.heap.size + 1) (fillN t 0 k) (fillN t 255 k) ∧ Below w.heap.size w wr)) (fun i _ => n - (intOf i).toNat)
  case atStart =>
    refine ⟨0, Nat.zero_le _, rfl, Lib.hid ⟨?_, ?_, (below_one w _).alloc (by simp) _⟩⟩
    · exact Box2.below (Box2.new w 0 0) (below_one _ _) (by simp)
    · have := Box2.new (w.alloc (.cells #[.int .u64 0, .int .u64 0] 132)) 0 0
      simpa [fillN] using this
  case round =>
    obtain ⟨k, hk, rfl, hS⟩ := hrel
    have g0 := hS.out.2.1.get
    by_cases hlt : k < n
    · have i1 : (k : Int) < (n : Int) := by omega
      by_cases htl : k < t.length
      · have i2 : (k : Int) < (t.length : Int) := by omega
        obtain ⟨b, off, rfl, hb, hcell⟩ := (HV.out.below hS.out.2.2).cell htl
        have e1 : t.getD k 255 = t.getD k 0 := by simp [List.getD, List.getElem?_eq_getElem htl]
        obtain ⟨p1, p2, p3, p4, p5⟩ := fill_next ht (f := 0) (by decide) (by decide) hlt hn rfl
        obtain ⟨q1, q2, q3, -, -⟩ := fill_next ht (f := 255) (by decide) (by decide) hlt hn e1
        have HP1 := Lib.hid p1
        have HQ1 := Lib.hid q1
        clear p1 q1 e1
        generalize t.getD k 0 = c at *
        generalize fillN t 0 k = lo at *
        generalize fillN t 255 k = hi at *
        obtain ⟨c0, c1, c2, c3⟩ := g0
        have hw1 : IntKind.u64.wrap (lo * 256) = lo * 256 := by rw [IntKind.wrap_u64]; omega
        have hw2 : IntKind.u64.wrap (hi * 256) = hi * 256 := by rw [IntKind.wrap_u64]; omega
        have hu : IntKind.u64.wrap c = c := by rw [IntKind.wrap_u64]; omega
        have o1 := or8 p2 p3 p4 p5
        have o2 := or8 q2 q3 p4 p5
        go_wp2_with fail
        go_region
        all_goals
          go_wp2_with fail
          refine ⟨⟨k + 1, by omega, by go_num, Lib.hid ?_⟩, by simp [intOf]; omega⟩
          rw [HP1.out, HQ1.out]
          exact ⟨Box2.far (Box2.far hS.out.1 (by omega) _) (by omega) _, Box2.set1 (Box2.set0 hS.out.2.1 _) _, ((hS.out.2.2.setCell (by simp) _).setCell (by simp) _).drew⟩
      · have i2 : ¬ (k : Int) < (t.length : Int) := by omega
        have e0 : t.getD k 0 = 0 := by simp [List.getD, List.getElem?_eq_none (Nat.le_of_not_lt htl)]
        have e1 : t.getD k 255 = 255 := by simp [List.getD, List.getElem?_eq_none (Nat.le_of_not_lt htl)]
        obtain ⟨p1, p2, p3, -, -⟩ := fill_next ht (f := 0) (by decide) (by decide) hlt hn e0
        obtain ⟨q1, q2, q3, -, -⟩ := fill_next ht (f := 255) (by decide) (by decide) hlt hn e1
        have HP1 := Lib.hid p1
        have HQ1 := Lib.hid q1
        clear p1 q1 e0 e1
        generalize fillN t 0 k = lo at *
        generalize fillN t 255 k = hi at *
        obtain ⟨c0, c1, c2, c3⟩ := g0
        have hw1 : IntKind.u64.wrap (lo * 256) = lo * 256 := by rw [IntKind.wrap_u64]; omega
        have hw2 : IntKind.u64.wrap (hi * 256) = hi * 256 := by rw [IntKind.wrap_u64]; omega
        have o1 := or8 (c := 0) p2 p3 (by decide) (by decide)
        have o2 := or8 (c := 255) q2 q3 (by decide) (by decide)
        go_wp2_with fail
        refine ⟨⟨k + 1, by omega, by go_num, Lib.hid ?_⟩, by simp [intOf]; omega⟩
        rw [HP1.out, HQ1.out, Int.add_zero]
        exact ⟨Box2.far (Box2.far hS.out.1 (by omega) _) (by omega) _, Box2.set1 (Box2.set0 hS.out.2.1 _) _, (hS.out.2.2.setCell (by simp) _).setCell (by simp) _⟩
    · obtain rfl : k = n := by omega
      have i1 : ¬ ((k : Nat) : Int) < (k : Nat) := by omega
      obtain ⟨c0, c1, c2, c3⟩ := g0
      obtain ⟨d0, d1, d2, d3⟩ := hS.out.1.get
      generalize hlo : fillN t 0 k = lo at *
      generalize hhi : fillN t 255 k = hi at *
      have hlo := Lib.hid hlo
      have hhi := Lib.hid hhi
      have hE := Lib.hid ((hS.out.2.2.setCell (p := ⟨w.heap.size, 0, none⟩) (by simp) (.int .u64 lo)).setCell (p := ⟨w.heap.size, 1, none⟩) (by simp) (.int .u64 hi))
      go_wp2_with fail
      exact bodyPost_ret (v := .agg #[.int .u64 lo, .int .u64 hi]) (by simp [results, Try.results104, go_sem, d0, d1]) rfl ⟨rfl, hE.out⟩
/-- A list of spans. -/
def Spans (w : World) (v : Value) (ls : List (Int × Int)) : Prop :=
  ∃ b, v = .slice (some ⟨b, 0, none⟩) ls.length ls.length ∧ b < w.heap.size ∧ ∀ i, i < ls.length → w.cell? ⟨b, i * 2, none⟩ = some (.int .u64 (ls.getD i (0, 0)).1) ∧ w.cell? ⟨b, i * 2 + 1, none⟩ = some (.int .u64 (ls.getD i (0, 0)).2)
def numL (t : List Int) (n : Nat) (ls : List (Int × Int)) : Int × Nat :=
  if ls.any (fun s => meetB (fillN t 0 n) (fillN t 255 n) s.1 s.2) then (if t.length < n then (0, 5) else (fillN t 0 n, 0)) else (0, 6)
theorem numL_one (t : List Int) (n : Nat) (f l : Int) : numL t n [(f, l)] = num1 t n f l := by simp [numL, num1]
theorem numL_two (t : List Int) (n : Nat) (f l f2 l2 : Int) : numL t n [(f, l), (f2, l2)] = num2 t n f l f2 l2 := by simp [numL, num2]
theorem hB1_size {w w1 : World} (h : Below w.heap.size w w1) : w.heap.size ≤ w1.heap.size := h.size
theorem any_next (p : Int × Int → Bool) (ls : List (Int × Int)) {k : Nat} (h : k < ls.length) : (ls.take (k + 1)).any p = ((ls.take k).any p || p ((ls.getD k (0, 0)).1, (ls.getD k (0, 0)).2)) := by
  rw [List.take_succ_eq_append_getElem h, List.any_append, List.getD, List.getElem?_eq_getElem h]
  simp
theorem any_take {p : Int × Int → Bool} {ls : List (Int × Int)} {k : Nat} (h : (ls.take k).any p = true) : ls.any p = true := by
  rw [List.any_eq_true] at h ⊢
  obtain ⟨x, hx, hp⟩ := h
  exact ⟨x, List.mem_of_mem_take hx, hp⟩
set_option maxHeartbeats 8000000 in
theorem number_any (v s : Value) (t : List Int) (n : Nat) (ls : List (Int × Int)) (w : World) (hv : Ints .u8 w v t) (ht : Bt t) (hn : n ≤ 8) (hl : t.length ≤ 1099511627776) (hs : Spans w s ls) (hls : ls.length ≤ 2) :
    Calls Try.prog 101 #[v, .int .i64 n, s] w fun e w' => e = .returned (.tuple #[.int .u64 (numL t n ls).1, .int .i64 ((numL t n ls).2 : Nat)]) ∧ Below w.heap.size w w' := by
  have HC := Lib.hid (compls_any v t n w hv ht hn hl)
  have HN := Lib.hid (show numL t n ls = (if ls.any (fun s => meetB (fillN t 0 n) (fillN t 255 n) s.1 s.2) then (if t.length < n then (0, 5) else (fillN t 0 n, 0)) else (0, 6)) from rfl)
  generalize numL t n ls = R at *
  generalize fillN t 0 n = lo at *
  generalize fillN t 255 n = hi at *
  obtain ⟨a, cap, rfl, hcap, -⟩ := hv
  obtain ⟨b, rfl, hb, hcell⟩ := hs
  have HM := Lib.hid (fun c d w => meets_any lo hi c d w)
  have HCl := Lib.hid hcell
  clear hcell
  go_enter Try.func101, Try.ntmps101
  go_wp2_with fail
  refine (HC.out).mono ?_; rintro e w1 ⟨rfl, hb1⟩
  have HB1 := Lib.hid hb1
  clear hb1
  unfold spanV
  go_wp2_with fail
  have hb0 := hB1_size HB1.out
  go_loopw [16] (fun i wr => ∃ k : Nat, k ≤ ls.length ∧ i = .int .i64 k ∧ Hid ((ls.take k).any (fun s => meetB lo hi s.1 s.2) = false) ∧ Hid (Box2 wr w1.heap.size lo hi ∧ Below w.heap.size w wr ∧ w1.heap.size < wr.heap.size)) (fun i _ => ls.length - (intOf i).toNat)
  case atStart => exact ⟨0, Nat.zero_le _, rfl, Lib.hid rfl, Lib.hid ⟨Box2.new _ _ _, HB1.out.alloc hb0 _, by simp⟩⟩
  case round =>
    obtain ⟨k, hk, rfl, hA, hS⟩ := hrel
    obtain ⟨c0, c1, c2, c3⟩ := hS.out.1.get
    by_cases hlt : k < ls.length
    · have i1 : (k : Int) < (ls.length : Int) := by omega
      obtain ⟨d0, d1⟩ := HCl.out k hlt
      rw [← hS.out.2.1.cell (p := ⟨b, k * 2, none⟩) hb] at d0
      rw [← hS.out.2.1.cell (p := ⟨b, k * 2 + 1, none⟩) hb] at d1
      have HAn := Lib.hid (any_next (fun s => meetB lo hi s.1 s.2) ls hlt)
      generalize (ls.getD k (0, 0)).1 = f at *
      generalize (ls.getD k (0, 0)).2 = l at *
      have hne : w1.heap.size < wr.heap.size := hS.out.2.2
      have hne2 : ¬ w1.heap.size = wr.heap.size := by omega
      have e0 : ∀ o, (wr.alloc o).cell? ⟨w1.heap.size, 0, none⟩ = some (.int .u64 lo) := fun o => by rw [← c0]; exact (below_one wr o).cell (p := ⟨w1.heap.size, 0, none⟩) hne
      have e1 : ∀ o, (wr.alloc o).cell? ⟨w1.heap.size, 1, none⟩ = some (.int .u64 hi) := fun o => by rw [← c1]; exact (below_one wr o).cell (p := ⟨w1.heap.size, 1, none⟩) hne
      go_wp2_with fail
      refine (HM.out f l _).mono ?_; rintro e w2 ⟨rfl, hb2⟩
      have hm : meetB lo hi f l = true ∨ meetB lo hi f l = false := by cases meetB lo hi f l <;> simp
      rcases hm with hm | hm
      · rw [hm] at HAn ⊢
        have hany : ls.any (fun s => meetB lo hi s.1 s.2) = true := any_take (by rw [HAn.out]; simp)
        have hbx := Box2.below (Box2.below hS.out.1 (below_one wr _) hS.out.2.2) hb2 (by have := hS.out.2.2; simp; omega)
        obtain ⟨g0, g1, g2, g3⟩ := hbx.get
        have HBe := Lib.hid ((hS.out.2.1.alloc hS.out.2.1.size _).trans (hb2.mono (by have := hS.out.2.1.size; simp; omega)))
        rw [hany] at HN
        clear hb2 d0 d1 c0 c1 c2 c3 hany hbx HM HAn hA
        by_cases hn2 : t.length < n
        · have i3 : (t.length : Int) < (n : Int) := by omega
          have HE := Lib.hid (show R = (0, 5) by rw [HN.out, if_pos rfl, if_pos hn2])
          go_wp2_with fail
          exact bodyPost_ret (v := .tuple #[.int .u64 0, .int .i64 5]) (by simp [results, Try.results101, go_sem]) rfl ⟨by rw [HE.out]; rfl, HBe.out⟩
        · have i3 : ¬ (t.length : Int) < (n : Int) := by omega
          have HE := Lib.hid (show R = (lo, 0) by rw [HN.out, if_pos rfl, if_neg hn2])
          go_wp2_with fail
          exact bodyPost_ret (v := .tuple #[.int .u64 lo, .int .i64 0]) (by simp [results, Try.results101, go_sem]) rfl ⟨by rw [HE.out]; rfl, HBe.out⟩
      · rw [hm] at HAn ⊢
        have HS2 := Lib.hid (show Box2 w2 w1.heap.size lo hi ∧ Below w.heap.size w w2 ∧ w1.heap.size < w2.heap.size from
          ⟨Box2.below (Box2.below hS.out.1 (below_one wr _) hS.out.2.2) hb2 (by have := hS.out.2.2; simp; omega), (hS.out.2.1.alloc hS.out.2.1.size _).trans (hb2.mono (by have := hS.out.2.1.size; simp; omega)), by have := hb2.size; have := hS.out.2.2; simp at *; omega⟩)
        clear hb2 d0 d1 c0 c1 c2 c3
        go_wp2_with fail
        go_roundw
        case rel => exact ⟨k + 1, by omega, by go_num, Lib.hid (by rw [HAn.out, hA.out]; rfl), HS2⟩
        case measure => simp [intOf]; omega
    · obtain rfl : k = ls.length := by omega
      have i1 : ¬ ((ls.length : Nat) : Int) < (ls.length : Nat) := by omega
      have hA2 := hA.out
      rw [List.take_length] at hA2
      have HE := Lib.hid (show R = (0, 6) by rw [HN.out, hA2]; rfl)
      go_wp2_with fail
      exact bodyPost_ret (v := .tuple #[.int .u64 0, .int .i64 6]) (by simp [results, Try.results101, go_sem]) rfl ⟨by rw [HE.out]; rfl, hS.out.2.1⟩
end Go.Proofs.Ytdlebcjkokabjaa
