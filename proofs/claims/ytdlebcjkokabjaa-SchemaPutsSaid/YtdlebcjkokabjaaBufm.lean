/- The writer's memory; it keeps an encoding. -/
import Derived.Test.YtdlebcjkokabjaaBufc
namespace Go.Proofs.Ytdlebcjkokabjaa
set_option maxRecDepth 100000
open Go.RowKit
set_option linter.unusedVariables false
/-- The three cells of a writer. -/
def Out3 (w : World) (N : Nat) (v : Value) (s : Nat) : Prop := w.heap[N]? = some (.cells #[v, .int .i64 s, .bool true] 100 (0, 0))
theorem Out3.reads {w : World} {N : Nat} {v : Value} {s : Nat} (h : Out3 w N v s) :
    w.cell? ⟨N, 0, none⟩ = some v ∧ w.cell? ⟨N, 1, none⟩ = some (.int .i64 s) ∧ w.cell? ⟨N, 2, none⟩ = some (.bool true) := by
  unfold Out3 at h
  refine ⟨by simp [World.cell?, h], by simp [World.cell?, h], by simp [World.cell?, h]⟩
theorem Out3.free {w : World} {N : Nat} {v : Value} {s : Nat} (h : Out3 w N v s) : w.frozen? ⟨N, 0, none⟩ = false ∧ w.frozen? ⟨N, 1, none⟩ = false := by
  unfold Out3 at h
  refine ⟨by simp [World.frozen?, h], by simp [World.frozen?, h]⟩
theorem Out3.lt {w : World} {N : Nat} {v : Value} {s : Nat} (h : Out3 w N v s) : N < w.heap.size := (Array.getElem?_eq_some_iff.1 h).1
theorem Out3.below {w w' : World} {N : Nat} {v : Value} {s : Nat} (h : Out3 w N v s) (hb : Below w.heap.size w w') : Out3 w' N v s := by
  unfold Out3; rw [hb.block N h.lt]; exact h
/-- The encodings that were kept, the last one first. -/
def Chain (w : World) : Value → List (List Int) → Prop
  | v, [] => v = .pointer none
  | v, e :: r => ∃ M d u, v = .pointer (some ⟨M, 0, none⟩) ∧ w.heap[M]? = some (.cells #[u, d] 103 (0, 0)) ∧ 0 < e.length ∧ Ints .u8 w d e ∧ Typed 5 w d ∧ Chain w u r
theorem Chain.below {w w' : World} (hb : Below w.heap.size w w') : ∀ {L : List (List Int)} {v : Value}, Chain w v L → Chain w' v L
  | [], _, h => h
  | e :: r, v, ⟨M, d, u, h1, h2, h0, h3, h4, h5⟩ => ⟨M, d, u, h1, by rw [hb.block M (Array.getElem?_eq_some_iff.1 h2).1]; exact h2, h0, h3.below hb, h4.below hb, h5.below hb⟩
theorem Chain.grown {w w' : World} {N : Nat} {x : Value} {s : Nat} (ho : Out3 w N x s) (hg : w.grownBy w' (some N)) : ∀ {L : List (List Int)} {v : Value}, Chain w v L → Chain w' v L
  | [], _, h => h
  | e :: r, v, ⟨M, d, u, h1, h2, h0, h3, h4, h5⟩ => by
    have hne : M ≠ N := by
      rintro rfl
      unfold Out3 at ho
      rw [h2] at ho
      simp only [Option.some.injEq, Obj.cells.injEq] at ho
      exact absurd ho.2.1 (by decide)
    refine ⟨M, d, u, h1, ?_, h0, h3.grown h4 ho (by decide) hg, h4.grown ho (by decide) hg, h5.grown ho hg⟩
    rw [hg.block M (Array.getElem?_eq_some_iff.1 h2).1 (by simpa using hne)]; exact h2
def catR : List (List Int) → List Int
  | [] => []
  | e :: r => catR r ++ e
/-- A writer of these encodings. -/
def OutAt (w : World) (N : Nat) (L : List (List Int)) : Prop := ∃ v, Out3 w N v (catR L).length ∧ Chain w v L
theorem OutAt.below {w w' : World} {N : Nat} {L : List (List Int)} (h : OutAt w N L) (hb : Below w.heap.size w w') : OutAt w' N L := by
  obtain ⟨v, h1, h2⟩ := h
  exact ⟨v, h1.below hb, h2.below hb⟩
theorem OutAt.lt {w : World} {N : Nat} {L : List (List Int)} (h : OutAt w N L) : N < w.heap.size := by obtain ⟨v, h1, h2⟩ := h; exact h1.lt
/-- An encoding more. -/
theorem OutAt.more {w : World} {N : Nat} {L : List (List Int)} {x : Value} {d : Value} {e : List Int} (h1 : Out3 w N x (catR L).length) (h2 : Chain w x L) (hd : Ints .u8 w d e) (ht : Typed 5 w d) (he : 0 < e.length) (o : Obj) (ho : o = .cells #[x, d] 103) (q : Int) (hq : q = (catR (e :: L)).length) :
    OutAt (((w.setCell ⟨N, 0, none⟩ (.pointer (some ⟨w.heap.size, 0, none⟩))).setCell ⟨N, 1, none⟩ (.int .i64 q)).alloc o) N (e :: L) ∧ w.grownBy (((w.setCell ⟨N, 0, none⟩ (.pointer (some ⟨w.heap.size, 0, none⟩))).setCell ⟨N, 1, none⟩ (.int .i64 q)).alloc o) (some N) := by
  subst ho hq
  have g := grown_then (grown_set w N 0 (.pointer (some ⟨w.heap.size, 0, none⟩))) (grown_set (w.setCell ⟨N, 0, none⟩ (.pointer (some ⟨w.heap.size, 0, none⟩))) N 1 (.int .i64 ((catR (e :: L)).length : Nat)))
  have e1 := heap_setCell_same _ N 0 _ _ (.pointer (some ⟨w.heap.size, 0, none⟩)) h1
  have e2 := heap_setCell_same _ N 1 _ _ (.int .i64 ((catR (e :: L)).length : Nat)) e1
  have hsz : ((w.setCell ⟨N, 0, none⟩ (.pointer (some ⟨w.heap.size, 0, none⟩))).setCell ⟨N, 1, none⟩ (.int .i64 ((catR (e :: L)).length : Nat))).heap.size = w.heap.size := by simp [World.setCell]
  have k2 := h2.grown h1 g
  have k3 := hd.grown ht h1 (by decide) g
  have k4 := ht.grown h1 (by decide) g
  generalize (w.setCell ⟨N, 0, none⟩ (.pointer (some ⟨w.heap.size, 0, none⟩))).setCell ⟨N, 1, none⟩ (.int .i64 ((catR (e :: L)).length : Nat)) = W at *
  have hb := below_one W (.cells #[x, d] 103)
  have hn := heap_alloc_new W (.cells #[x, d] 103)
  have k1 : Out3 W N (.pointer (some ⟨w.heap.size, 0, none⟩)) (catR (e :: L)).length := e2
  rw [hsz] at hn
  exact ⟨⟨_, k1.below hb, w.heap.size, d, x, rfl, hn, he, k3.below hb, k4.below hb, k2.below hb⟩, grown_then g (grown_below hb (some N))⟩
/-- A writer that was not made, or none. -/
def NoOut (w : World) (v : Value) : Prop := v = .pointer none ∨ ∃ N, v = .pointer (some ⟨N, 0, none⟩) ∧ w.heap[N]? = some (.cells #[.pointer none, .int .i64 0, .bool false] 100 (0, 0))
theorem NoOut.below {w w' : World} {v : Value} (h : NoOut w v) (hb : Below w.heap.size w w') : NoOut w' v := by
  rcases h with rfl | ⟨N, rfl, h⟩
  · exact .inl rfl
  · exact .inr ⟨N, rfl, by rw [hb.block N (Array.getElem?_eq_some_iff.1 h).1]; exact h⟩
theorem usable_any (w : World) (N : Nat) (L : List (List Int)) (h : OutAt w N L) :
    Calls Try.prog 65 #[.pointer (some ⟨N, 0, none⟩)] w fun r w' => r = .returned (.bool true) ∧ w = w' := by
  obtain ⟨v, h1, -⟩ := h
  obtain ⟨r0, r1, r2⟩ := h1.reads
  clear h1
  go_enter Try.func65, Try.ntmps65
  go_wp2_with fail
  go_ret
  exact ⟨rfl, rfl⟩
theorem usable_no (w : World) (v : Value) (h : NoOut w v) :
    Calls Try.prog 65 #[v] w fun r w' => r = .returned (.bool false) ∧ w = w' := by
  rcases h with rfl | ⟨N, rfl, h⟩
  · go_enter Try.func65, Try.ntmps65
    go_wp2_with fail
    go_ret
    exact ⟨rfl, rfl⟩
  · have r3 : w.cell? ⟨N, 2, none⟩ = some (.bool false) := by simp [World.cell?, h]
    clear h
    go_enter Try.func65, Try.ntmps65
    go_wp2_with fail
    go_ret
    exact ⟨rfl, rfl⟩
theorem put_no (w : World) (v d : Value) (h : NoOut w v) :
    Calls Try.prog 62 #[v, d] w fun r w' => r = .returned (.tuple #[]) ∧ w = w' := by
  have HU := Lib.hid (usable_no w v h)
  clear h
  go_enter Try.func62, Try.ntmps62
  go_wp2_with fail
  refine (HU.out).mono ?_; rintro r w1 ⟨rfl, rfl⟩
  go_wp2_with fail
  exact bodyPost_ret (results_none rfl _ _ _) rfl ⟨rfl, rfl⟩
/-- What a writing function leaves. -/
def PutP (w : World) (N : Nat) (L : List (List Int)) (e : List Int) (r : Ending) (w' : World) : Prop := r = .returned (.tuple #[]) ∧ OutAt w' N (e :: L) ∧ w.grownBy w' (some N)
theorem put_any (w : World) (N : Nat) (L : List (List Int)) (d : Value) (e : List Int) (h : OutAt w N L) (hd : Ints .u8 w d e) (ht : Typed 5 w d) (he : 0 < e.length) (hl : (catR (e :: L)).length ≤ 2000000) :
    Calls Try.prog 62 #[.pointer (some ⟨N, 0, none⟩), d] w (PutP w N L e) := by
  have HU := Lib.hid (usable_any w N L h)
  obtain ⟨x, h1, h2⟩ := h
  have hlen : (catR (e :: L)).length = (catR L).length + e.length := by simp [catR]
  have HM := Lib.hid (OutAt.more h1 h2 hd ht he _ rfl ((catR L).length + e.length) (by rw [hlen]; rfl))
  obtain ⟨r0, r1, r2⟩ := h1.reads
  obtain ⟨f0, f1⟩ := h1.free
  have hN := h1.lt
  have hne : w.heap.size ≠ N := by omega
  have i1 : IntKind.i64.wrap (((catR L).length : Int) + (e.length : Int)) = ((catR L).length : Int) + e.length := IntWalk.i64_in _ (by omega)
  obtain ⟨a, cap, rfl, -, -⟩ := hd
  have hx : ∃ p, x = .pointer p := by
    cases L with
    | nil => exact ⟨_, h2⟩
    | cons e r => obtain ⟨M, d, u, hx, -⟩ := h2; exact ⟨_, hx⟩
  obtain ⟨p, rfl⟩ := hx
  generalize (catR L).length = s at *
  clear h1 h2 ht hl hlen
  go_enter Try.func62, Try.ntmps62
  go_wp2_with fail
  refine (HU.out).mono ?_; rintro r w1 ⟨rfl, rfl⟩
  go_wp2_with fail
  go_end0
  exact ⟨rfl, HM.out.1, HM.out.2⟩
end Go.Proofs.Ytdlebcjkokabjaa
