/- A new writer; the statement's write; the chapter's examples. -/
import Derived.Test.YtdnbjaeeebodkaaGreatBufo
import Derived.Test.YtdnbjaeeebodkaaGreatBufh
import Derived.Lib.ConvBytes
import Derived.Lib.SmallJoins
namespace Go.Proofs.YtdnbjaeeebodkaaGreat
set_option maxRecDepth 100000
open Go.RowKit
set_option linter.unusedVariables false
theorem newout_any (w : World) : Calls Tryz.prog 28 #[] w fun r w' => r = .returned (.pointer (some ⟨w.heap.size, 0, none⟩)) ∧ w' = w.alloc (.cells #[.pointer none, .int .i64 0, .bool true] 116) := by
  go_enter Tryz.func28, Tryz.ntmps28
  go_wp2_with fail
  go_ret
  exact ⟨rfl, rfl⟩
theorem out_new (w : World) : OutAt (w.alloc (.cells #[.pointer none, .int .i64 0, .bool true] 116)) w.heap.size [] := ⟨.pointer none, heap_alloc_new w _, rfl⟩
/-- A writer stays as it is where a reader is changed. -/
theorem Chain.beside {w w' : World} {M : Nat} {cur : Array Value} (hm : w.heap[M]? = some (.cells cur 94 (0, 0))) (hg : w.grownBy w' (some M)) : ∀ {L : List (List Int)} {v : Value}, Chain w v L → Chain w' v L
  | [], _, h => h
  | e :: r, v, ⟨K, d, u, h1, h2, h0, h3, h4, h5⟩ => by
    have hne : K ≠ M := by
      rintro rfl
      rw [h2] at hm
      simp only [Option.some.injEq, Obj.cells.injEq] at hm
      exact absurd hm.2.1 (by decide)
    refine ⟨K, d, u, h1, ?_, h0, h3.grown h4 hm (by decide) hg, h4.grown hm (by decide) hg, h5.beside hm hg⟩
    rw [hg.block K (Array.getElem?_eq_some_iff.1 h2).1 (by simpa using hne)]; exact h2
theorem OutAt.beside {w w' : World} {N M : Nat} {L : List (List Int)} {b : List Int} {p e : Nat} (h : OutAt w N L) (hi : InAt w M b p e) (hg : w.grownBy w' (some M)) : OutAt w' N L := by
  obtain ⟨v, h1, h2⟩ := h
  obtain ⟨u, k1, -⟩ := hi
  refine ⟨v, ?_, h2.beside k1 hg⟩
  have hne : N ≠ M := by
    rintro rfl
    unfold Out3 at h1
    unfold In4 at k1
    rw [h1] at k1
    simp only [Option.some.injEq, Obj.cells.injEq] at k1
    exact absurd k1.2.1 (by decide)
  unfold Out3
  rw [hg.block N (Array.getElem?_eq_some_iff.1 h1).1 (by simpa using hne)]; exact h1
/-- The encoding of a thing. -/
def encA (d u i : Int) (k : Nat) (t : ByteArray) : List Int :=
  if d = 0 then encU u.toNat else if d = 1 then encI i else if d = 2 then encF k else if d = 3 then encT (ofS t) else encU t.size ++ ofS t
theorem ints_conv (w : World) (s : ByteArray) : Ints .u8 (Lib.bytesWorld w 5 s) (.slice (some ⟨w.heap.size, 0, none⟩) s.size (grownCap w s.size 0 5)) (ofS s) := by
  refine ⟨some ⟨w.heap.size, 0, none⟩, _, by rw [ofS_len], ?_, .inr ⟨w.heap.size, 0, rfl, ?_, fun i hi => ?_⟩⟩
  · rw [ofS_len]; exact grownCap_ge _ _ _ _
  · rw [Lib.bytesWorld_size]; omega
  · rw [ofS_len] at hi
    rw [Nat.zero_add, Lib.bytesWorld_cell w _ s i hi]
    congr 2
    unfold ofS
    have hg : s.data[i]? = some (s.data[i]'hi) := Array.getElem?_eq_getElem hi
    simp only [List.getD, List.getElem?_map, Array.getElem?_toList, hg]
    rfl
theorem run_conv (w : World) (s : ByteArray) : (convert 9 27 (.string s)).run Tryz.prog w = .ok (.slice (some ⟨w.heap.size, 0, none⟩) s.size (grownCap w s.size 0 5)) (Lib.bytesWorld w 5 s) :=
  Lib.run_convert_string_bytes w 9 27 5 s Tryz.underlying9 Tryz.underlying27 Tryz.underlying5
theorem below_conv (w : World) (s : ByteArray) : Below w.heap.size w (Lib.bytesWorld w 5 s) := Joins.below_bytesWorld _ _ _ _ (Nat.le_refl _)
end Go.Proofs.YtdnbjaeeebodkaaGreat
