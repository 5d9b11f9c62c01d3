/- A new writer; the statement's write; the chapter's examples. -/
import Derived.Test.YtmganccajcpcbaaBufo
import Derived.Test.YtmganccajcpcbaaBufh
import Derived.Lib.ConvBytes
import Derived.Lib.SmallJoins
namespace Go.Proofs.Ytmganccajcpcbaa
set_option maxRecDepth 100000
open Go.RowKit
set_option linter.unusedVariables false
theorem newout_any (w : World) : Calls Try.prog 14 #[] w fun r w' => r = .returned (.pointer (some ⟨w.heap.size, 0, none⟩)) ∧ w' = w.alloc (.cells #[.pointer none, .int .i64 0, .bool true] 50) := by
  go_enter Try.func14, Try.ntmps14
  go_wp2_with fail
  go_ret
  exact ⟨rfl, rfl⟩
theorem out_new (w : World) : OutAt (w.alloc (.cells #[.pointer none, .int .i64 0, .bool true] 50)) w.heap.size [] := ⟨.pointer none, heap_alloc_new w _, rfl⟩
/-- A writer stays as it is where a reader is changed. -/
theorem Chain.beside {w w' : World} {M : Nat} {cur : Array Value} (hm : w.heap[M]? = some (.cells cur 52 (0, 0))) (hg : w.grownBy w' (some M)) : ∀ {L : List (List Int)} {v : Value}, Chain w v L → Chain w' v L
  | [], _, h => h
  | e :: r, v, ⟨K, d, u, h1, h2, h0, h3, h4, h5⟩ => by
    have hne : K ≠ M := by
      rintro rfl
      rw [h2] at hm
      simp only [Option.some.injEq, Obj.cells.injEq] at hm
      exact absurd hm.2.1 (by decide)
    refine ⟨K, d, u, h1, ?_, h0, h3.grown h4 hm (by decide) hg, h4.grown hm (by decide) hg, h5.beside hm hg⟩
    rw [hg.block K (Array.getElem?_eq_some_iff.1 h2).1 (by simpa using hne)]; exact h2
theorem OutAt.beside {w w' : World} {N M : Nat} {L : List (List Int)} {b : List Int} {p e : Nat} (h : OutAt w N L) (hi : InAt w M b p e) (hg : w.grownBy w' (some M)) : OutAt w' N L := by
  obtain ⟨v, h1, h2⟩ := h
  obtain ⟨u, k1, -⟩ := hi
  refine ⟨v, ?_, h2.beside k1 hg⟩
  have hne : N ≠ M := by
    rintro rfl
    unfold Out3 at h1
    unfold In4 at k1
    rw [h1] at k1
    simp only [Option.some.injEq, Obj.cells.injEq] at k1
    exact absurd k1.2.1 (by decide)
  unfold Out3
  rw [hg.block N (Array.getElem?_eq_some_iff.1 h1).1 (by simpa using hne)]; exact h1
/-- The encoding of a thing. -/
def encA (d u i : Int) (k : Nat) (t : ByteArray) : List Int :=
  if d = 0 then encU u.toNat else if d = 1 then encI i else if d = 2 then encF k else if d = 3 then encT (ofS t) else encU t.size ++ ofS t
theorem ints_conv (w : World) (s : ByteArray) : Ints .u8 (Lib.bytesWorld w 5 s) (.slice (some ⟨w.heap.size, 0, none⟩) s.size (grownCap w s.size 0 5)) (ofS s) := by
  refine ⟨some ⟨w.heap.size, 0, none⟩, _, by rw [ofS_len], ?_, .inr ⟨w.heap.size, 0, rfl, ?_, fun i hi => ?_⟩⟩
  · rw [ofS_len]; exact grownCap_ge _ _ _ _
  · rw [Lib.bytesWorld_size]; omega
  · rw [ofS_len] at hi
    rw [Nat.zero_add, Lib.bytesWorld_cell w _ s i hi]
    congr 2
    unfold ofS
    have hg : s.data[i]? = some (s.data[i]'hi) := Array.getElem?_eq_getElem hi
    simp only [List.getD, List.getElem?_map, Array.getElem?_toList, hg]
    rfl
theorem run_conv (w : World) (s : ByteArray) : (convert 9 22 (.string s)).run Try.prog w = .ok (.slice (some ⟨w.heap.size, 0, none⟩) s.size (grownCap w s.size 0 5)) (Lib.bytesWorld w 5 s) :=
  Lib.run_convert_string_bytes w 9 22 5 s Try.underlying9 Try.underlying22 Try.underlying5
theorem below_conv (w : World) (s : ByteArray) : Below w.heap.size w (Lib.bytesWorld w 5 s) := Joins.below_bytesWorld _ _ _ _ (Nat.le_refl _)
theorem wr0_any (w : World) (N : Nat) (L : List (List Int)) (u i : Int) (f : Nat) (t : ByteArray) (m : Int) (hu : 0 ≤ u ∧ u < 18446744073709551616) (h : OutAt w N L) (hl : (catR ((encU u.toNat) :: L)).length ≤ 2000000) :
    Calls Try.prog 15 #[.pointer (some ⟨N, 0, none⟩), askV 0 u i f t m] w (PutP w N L (encU u.toNat)) := by
  have hu2 : ((u.toNat : Nat) : Int) = u := by omega
  have HP := Lib.hid (fun w1 (hb : Below w.heap.size w w1) => outU_any w1 N L u.toNat (by omega) (h.below hb) hl)
  rw [hu2] at HP
  have HB := Lib.hid (below_one w (askO 0 u i f t m))
  have HS := Lib.hid (show (w.alloc (askO 0 u i f t m)).heap.size = w.heap.size + 1 by simp)
  clear h
  go_enter Try.func15, Try.ntmps15
  go_wp2_with fail
  refine (HP.out _ HB.out).mono ?_; rintro r w2 ⟨rfl, h1, h2⟩
  go_wp2_with fail
  go_end0
  exact ⟨rfl, h1, grown_then (grown_below HB.out (some N)) h2⟩
theorem wr0_no (w : World) (v : Value) (u i : Int) (f : Nat) (t : ByteArray) (m : Int) (hu : 0 ≤ u ∧ u < 18446744073709551616) (h : NoOut w v) :
    Calls Try.prog 15 #[v, askV 0 u i f t m] w fun r w' => r = .returned (.tuple #[]) ∧ Below w.heap.size w w' := by
  have hu2 : ((u.toNat : Nat) : Int) = u := by omega
  have HP := Lib.hid (fun w1 (hb : Below w.heap.size w w1) => outU_no w1 v u.toNat (by omega) (h.below hb))
  rw [hu2] at HP
  have HB := Lib.hid (below_one w (askO 0 u i f t m))
  have HS := Lib.hid (show (w.alloc (askO 0 u i f t m)).heap.size = w.heap.size + 1 by simp)
  clear h
  go_enter Try.func15, Try.ntmps15
  go_wp2_with fail
  refine (HP.out _ HB.out).mono ?_; rintro r w2 ⟨rfl, h2⟩
  go_wp2_with fail
  go_end0
  exact ⟨rfl, below_then HB.out h2⟩
theorem wr1_any (w : World) (N : Nat) (L : List (List Int)) (u i : Int) (f : Nat) (t : ByteArray) (m : Int) (hi : -9223372036854775808 ≤ i ∧ i ≤ 9223372036854775807) (h : OutAt w N L) (hl : (catR ((encI i) :: L)).length ≤ 2000000) :
    Calls Try.prog 15 #[.pointer (some ⟨N, 0, none⟩), askV 1 u i f t m] w (PutP w N L (encI i)) := by
  have HP := Lib.hid (fun w1 (hb : Below w.heap.size w w1) => outI_any w1 N L i hi.1 hi.2 (h.below hb) hl)
  have HB := Lib.hid (below_one w (askO 1 u i f t m))
  have HS := Lib.hid (show (w.alloc (askO 1 u i f t m)).heap.size = w.heap.size + 1 by simp)
  clear h
  go_enter Try.func15, Try.ntmps15
  go_wp2_with fail
  refine (HP.out _ HB.out).mono ?_; rintro r w2 ⟨rfl, h1, h2⟩
  go_wp2_with fail
  go_end0
  exact ⟨rfl, h1, grown_then (grown_below HB.out (some N)) h2⟩
theorem wr1_no (w : World) (v : Value) (u i : Int) (f : Nat) (t : ByteArray) (m : Int) (hi : -9223372036854775808 ≤ i ∧ i ≤ 9223372036854775807) (h : NoOut w v) :
    Calls Try.prog 15 #[v, askV 1 u i f t m] w fun r w' => r = .returned (.tuple #[]) ∧ Below w.heap.size w w' := by
  have HP := Lib.hid (fun w1 (hb : Below w.heap.size w w1) => outI_no w1 v i hi.1 hi.2 (h.below hb))
  have HB := Lib.hid (below_one w (askO 1 u i f t m))
  have HS := Lib.hid (show (w.alloc (askO 1 u i f t m)).heap.size = w.heap.size + 1 by simp)
  clear h
  go_enter Try.func15, Try.ntmps15
  go_wp2_with fail
  refine (HP.out _ HB.out).mono ?_; rintro r w2 ⟨rfl, h2⟩
  go_wp2_with fail
  go_end0
  exact ⟨rfl, below_then HB.out h2⟩
theorem wr2_any (w : World) (N : Nat) (L : List (List Int)) (u i : Int) (f : Nat) (t : ByteArray) (m : Int) (k : Nat) (hf : W64 f) (hk : keyI f = (k : Int)) (h : OutAt w N L) (hl : (catR ((encF k) :: L)).length ≤ 2000000) :
    Calls Try.prog 15 #[.pointer (some ⟨N, 0, none⟩), askV 2 u i f t m] w (PutP w N L (encF k)) := by
  have HP := Lib.hid (fun w1 (hb : Below w.heap.size w w1) => outF_any w1 N L f k hf hk (h.below hb) hl)
  have HB := Lib.hid (below_one w (askO 2 u i f t m))
  have HS := Lib.hid (show (w.alloc (askO 2 u i f t m)).heap.size = w.heap.size + 1 by simp)
  clear h
  go_enter Try.func15, Try.ntmps15
  go_wp2_with fail
  refine (HP.out _ HB.out).mono ?_; rintro r w2 ⟨rfl, h1, h2⟩
  go_wp2_with fail
  go_end0
  exact ⟨rfl, h1, grown_then (grown_below HB.out (some N)) h2⟩
theorem wr2_no (w : World) (v : Value) (u i : Int) (f : Nat) (t : ByteArray) (m : Int) (k : Nat) (hf : W64 f) (hk : keyI f = (k : Int)) (h : NoOut w v) :
    Calls Try.prog 15 #[v, askV 2 u i f t m] w fun r w' => r = .returned (.tuple #[]) ∧ Below w.heap.size w w' := by
  have HP := Lib.hid (fun w1 (hb : Below w.heap.size w w1) => outF_no w1 v f k hf hk (h.below hb))
  have HB := Lib.hid (below_one w (askO 2 u i f t m))
  have HS := Lib.hid (show (w.alloc (askO 2 u i f t m)).heap.size = w.heap.size + 1 by simp)
  clear h
  go_enter Try.func15, Try.ntmps15
  go_wp2_with fail
  refine (HP.out _ HB.out).mono ?_; rintro r w2 ⟨rfl, h2⟩
  go_wp2_with fail
  go_end0
  exact ⟨rfl, below_then HB.out h2⟩
theorem wr3_any (w : World) (N : Nat) (L : List (List Int)) (u i : Int) (f : Nat) (t : ByteArray) (m : Int) (ht : t.size ≤ 1048576) (h : OutAt w N L) (hl : (catR ((encT (ofS t)) :: L)).length ≤ 2000000) :
    Calls Try.prog 15 #[.pointer (some ⟨N, 0, none⟩), askV 3 u i f t m] w (PutP w N L (encT (ofS t))) := by
  have HP := Lib.hid (fun w1 (hb : Below w.heap.size w w1) => outT_any w1 N L t ht (h.below hb) hl)
  have HB := Lib.hid (below_one w (askO 3 u i f t m))
  have HS := Lib.hid (show (w.alloc (askO 3 u i f t m)).heap.size = w.heap.size + 1 by simp)
  clear h
  go_enter Try.func15, Try.ntmps15
  go_wp2_with fail
  refine (HP.out _ HB.out).mono ?_; rintro r w2 ⟨rfl, h1, h2⟩
  go_wp2_with fail
  go_end0
  exact ⟨rfl, h1, grown_then (grown_below HB.out (some N)) h2⟩
theorem wr3_no (w : World) (v : Value) (u i : Int) (f : Nat) (t : ByteArray) (m : Int) (ht : t.size ≤ 1048576) (h : NoOut w v) :
    Calls Try.prog 15 #[v, askV 3 u i f t m] w fun r w' => r = .returned (.tuple #[]) ∧ Below w.heap.size w w' := by
  have HP := Lib.hid (fun w1 (hb : Below w.heap.size w w1) => outT_no w1 v t ht (h.below hb))
  have HB := Lib.hid (below_one w (askO 3 u i f t m))
  have HS := Lib.hid (show (w.alloc (askO 3 u i f t m)).heap.size = w.heap.size + 1 by simp)
  clear h
  go_enter Try.func15, Try.ntmps15
  go_wp2_with fail
  refine (HP.out _ HB.out).mono ?_; rintro r w2 ⟨rfl, h2⟩
  go_wp2_with fail
  go_end0
  exact ⟨rfl, below_then HB.out h2⟩
theorem wr4_any (w : World) (N : Nat) (L : List (List Int)) (u i : Int) (f : Nat) (t : ByteArray) (m : Int) (ht : t.size ≤ 1048576) (h : OutAt w N L) (hl : (catR ((encU (ofS t).length ++ ofS t) :: L)).length ≤ 2000000) :
    Calls Try.prog 15 #[.pointer (some ⟨N, 0, none⟩), askV 4 u i f t m] w (PutP w N L (encU (ofS t).length ++ ofS t)) := by
  have HP := Lib.hid (fun w1 (hb : Below w.heap.size w w1) d2 (hd : Ints .u8 w1 d2 (ofS t)) => outB_any w1 N L d2 (ofS t) hd (by rw [ofS_len]; omega) (h.below hb) hl)
  have hcv := run_conv (w.alloc (askO 4 u i f t m)) t
  have hI := ints_conv (w.alloc (askO 4 u i f t m)) t
  have hB := below_then (below_one w (askO 4 u i f t m)) (below_conv _ t)
  rw [show (w.alloc (askO 4 u i f t m)).heap.size = w.heap.size + 1 by simp] at hcv hI
  generalize Lib.bytesWorld (w.alloc (askO 4 u i f t m)) 5 t = W2 at *
  generalize grownCap (w.alloc (askO 4 u i f t m)) t.size 0 5 = c at *
  have HI := Lib.hid hI
  have HB2 := Lib.hid hB
  clear hI hB
  have HB := Lib.hid (below_one w (askO 4 u i f t m))
  have HS := Lib.hid (show (w.alloc (askO 4 u i f t m)).heap.size = w.heap.size + 1 by simp)
  clear h
  go_enter Try.func15, Try.ntmps15
  go_wp2_with fail
  refine (HP.out W2 HB2.out _ HI.out).mono ?_; rintro r w2 ⟨rfl, h1, h2⟩
  go_wp2_with fail
  go_end0
  exact ⟨rfl, h1, grown_then (grown_below HB2.out (some N)) h2⟩
theorem wr4_no (w : World) (v : Value) (u i : Int) (f : Nat) (t : ByteArray) (m : Int) (ht : t.size ≤ 1048576) (h : NoOut w v) :
    Calls Try.prog 15 #[v, askV 4 u i f t m] w fun r w' => r = .returned (.tuple #[]) ∧ Below w.heap.size w w' := by
  have HP := Lib.hid (fun w1 (hb : Below w.heap.size w w1) d2 (hd : Ints .u8 w1 d2 (ofS t)) => outB_no w1 v d2 (ofS t) hd (by rw [ofS_len]; omega) (h.below hb))
  have hcv := run_conv (w.alloc (askO 4 u i f t m)) t
  have hI := ints_conv (w.alloc (askO 4 u i f t m)) t
  have hB := below_then (below_one w (askO 4 u i f t m)) (below_conv _ t)
  rw [show (w.alloc (askO 4 u i f t m)).heap.size = w.heap.size + 1 by simp] at hcv hI
  generalize Lib.bytesWorld (w.alloc (askO 4 u i f t m)) 5 t = W2 at *
  generalize grownCap (w.alloc (askO 4 u i f t m)) t.size 0 5 = c at *
  have HI := Lib.hid hI
  have HB2 := Lib.hid hB
  clear hI hB
  have HB := Lib.hid (below_one w (askO 4 u i f t m))
  have HS := Lib.hid (show (w.alloc (askO 4 u i f t m)).heap.size = w.heap.size + 1 by simp)
  clear h
  go_enter Try.func15, Try.ntmps15
  go_wp2_with fail
  refine (HP.out W2 HB2.out _ HI.out).mono ?_; rintro r w2 ⟨rfl, h2⟩
  go_wp2_with fail
  go_end0
  exact ⟨rfl, below_then HB2.out h2⟩
theorem wr_none (w : World) (v : Value) (d u i : Int) (f : Nat) (t : ByteArray) (m : Int) (hd : d < 0 ∨ 4 < d) :
    Calls Try.prog 15 #[v, askV d u i f t m] w fun r w' => r = .returned (.tuple #[]) ∧ Below w.heap.size w w' := by
  have d0 : (d == 0) = false := by simp; omega
  have d1 : (d == 1) = false := by simp; omega
  have d2 : (d == 2) = false := by simp; omega
  have d3 : (d == 3) = false := by simp; omega
  have d4 : (d == 4) = false := by simp; omega
  have HB := Lib.hid (below_one w (askO d u i f t m))
  go_enter Try.func15, Try.ntmps15
  go_wp2_with fail
  go_end0
  exact ⟨rfl, HB.out⟩
/-- A writer that was not made takes nothing. -/
theorem wr_no (w : World) (v : Value) (d u i : Int) (f : Nat) (t : ByteArray) (m : Int) (hu : 0 ≤ u ∧ u < 18446744073709551616) (hi : -9223372036854775808 ≤ i ∧ i ≤ 9223372036854775807) (hf : W64 f) (ht : t.size ≤ 1048576) (h : NoOut w v) :
    Calls Try.prog 15 #[v, askV d u i f t m] w fun r w' => r = .returned (.tuple #[]) ∧ Below w.heap.size w w' := by
  by_cases h0 : d = 0
  · subst h0; exact wr0_no w v u i f t m hu h
  · by_cases h1 : d = 1
    · subst h1; exact wr1_no w v u i f t m hi h
    · by_cases h2 : d = 2
      · subst h2
        have := key_range hf
        exact wr2_no w v u i f t m (keyI f).toNat hf (by omega) h
      · by_cases h3 : d = 3
        · subst h3; exact wr3_no w v u i f t m ht h
        · by_cases h4 : d = 4
          · subst h4; exact wr4_no w v u i f t m ht h
          · exact wr_none w v d u i f t m (by omega)
theorem wr_any (w : World) (N : Nat) (L : List (List Int)) (d u i : Int) (f k : Nat) (t : ByteArray) (m : Int) (hd : 0 ≤ d ∧ d ≤ 4) (hu : 0 ≤ u ∧ u < 18446744073709551616) (hi : -9223372036854775808 ≤ i ∧ i ≤ 9223372036854775807) (hf : W64 f) (hk : keyI f = (k : Int)) (ht : t.size ≤ 1048576) (h : OutAt w N L) (hl : (catR (encA d u i k t :: L)).length ≤ 2000000) :
    Calls Try.prog 15 #[.pointer (some ⟨N, 0, none⟩), askV d u i f t m] w (PutP w N L (encA d u i k t)) := by
  unfold encA at hl ⊢
  by_cases h0 : d = 0
  · subst h0; simp only [if_true] at hl ⊢; exact wr0_any w N L u i f t m hu h hl
  · by_cases h1 : d = 1
    · subst h1; simp only [if_neg h0, if_true] at hl ⊢; exact wr1_any w N L u i f t m hi h hl
    · by_cases h2 : d = 2
      · subst h2; simp only [if_neg h0, if_neg h1, if_true] at hl ⊢; exact wr2_any w N L u i f t m k hf hk h hl
      · by_cases h3 : d = 3
        · subst h3; simp only [if_neg h0, if_neg h1, if_neg h2, if_true] at hl ⊢; exact wr3_any w N L u i f t m ht h hl
        · obtain rfl : d = 4 := by omega
          simp only [if_neg h0, if_neg h1, if_neg h2, if_neg h3] at hl ⊢
          rw [← ofS_len t] at hl ⊢
          exact wr4_any w N L u i f t m ht h hl
end Go.Proofs.Ytmganccajcpcbaa
