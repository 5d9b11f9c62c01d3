/- Layer 11: what a schema's bytes are. -/
import Derived.Test.YtdnbjaeeebodkaaGreatScia
import Derived.Test.YtdnbjaeeebodkaaGreatScht
import Derived.Test.YtdnbjaeeebodkaaGreatBufq
import Derived.Test.YtdnbjaeeebodkaaGreatSche
import Derived.Test.YtdnbjaeeebodkaaGreatSchm
namespace Go.Proofs.YtdnbjaeeebodkaaGreat
set_option maxRecDepth 100000
open Go.RowKit
set_option linter.unusedVariables false
/-- A writer of these bytes. -/
def OutB (w : World) (N : Nat) (bs : List Int) : Prop := ∃ L, OutAt w N L ∧ catR L = bs
theorem OutB.below {w w' : World} {N : Nat} {bs : List Int} (h : OutB w N bs) (hb : Below w.heap.size w w') : OutB w' N bs := by
  obtain ⟨L, h1, h2⟩ := h
  exact ⟨L, h1.below hb, h2⟩
def PutB (w : World) (N : Nat) (bs : List Int) (r : Ending) (w' : World) : Prop := r = .returned (.tuple #[]) ∧ OutB w' N bs ∧ w.grownBy w' (some N)
theorem putU_b (w : World) (N : Nat) (bs : List Int) (x : Nat) (h : OutB w N bs) (hx : x < 18446744073709551616) (hl : bs.length ≤ 10000) :
    Calls Tryz.prog 29 #[.pointer (some ⟨N, 0, none⟩), .int .u64 x] w (PutB w N (bs ++ encU x)) := by
  obtain ⟨L, h1, rfl⟩ := h
  refine (outU_any w N L x hx h1 ?_).mono ?_
  · have := (encU_len hx).2
    rw [show catR (encU x :: L) = catR L ++ encU x from rfl, List.length_append]
    omega
  · rintro r w' ⟨rfl, h2, h3⟩
    exact ⟨rfl, ⟨_, h2, rfl⟩, h3⟩
set_option maxRecDepth 100000
open Go.RowKit
set_option linter.unusedVariables false
set_option maxRecDepth 100000
open Go.RowKit
set_option linter.unusedVariables false
/-- What stands in memory while a schema is put: the writer, the variable that the closures hold, the schema's cells. -/
structure Pw (w w1 wr : World) (D I M V : Value) (bs : List Int) : Prop where
  o : OutB wr w1.heap.size bs
  m : wr.cell? ⟨w1.heap.size + 1, 0, none⟩ = some (.pointer (some ⟨w1.heap.size, 0, none⟩))
  k : wr.cell? ⟨w.heap.size, 0, none⟩ = some D ∧ wr.cell? ⟨w.heap.size, 1, none⟩ = some I ∧ wr.cell? ⟨w.heap.size, 2, none⟩ = some M ∧ wr.cell? ⟨w.heap.size, 3, none⟩ = some V
  g : Below w1.heap.size w1 wr
  lt : w.heap.size < w1.heap.size
theorem Pw.call {w w1 wr w' : World} {D I M V : Value} {bs bs' : List Int} (h : Pw w w1 wr D I M V bs) (ho : OutB w' w1.heap.size bs') (hg : wr.grownBy w' (some w1.heap.size)) : Pw w w1 w' D I M V bs' := by
  have hl := h.lt
  have q : ∀ j, (⟨w.heap.size, j, none⟩ : Addr).block ≠ w1.heap.size := fun j => by show w.heap.size ≠ _; omega
  exact ⟨ho, cell_grown hg h.m (by show w1.heap.size + 1 ≠ _; omega), ⟨cell_grown hg h.k.1 (q 0), cell_grown hg h.k.2.1 (q 1), cell_grown hg h.k.2.2.1 (q 2), cell_grown hg h.k.2.2.2 (q 3)⟩, below_grown h.g hg (Nat.le_refl _), hl⟩
theorem pw_start {w w1 : World} {D I M V : Value} (hk : w1.cell? ⟨w.heap.size, 0, none⟩ = some D ∧ w1.cell? ⟨w.heap.size, 1, none⟩ = some I ∧ w1.cell? ⟨w.heap.size, 2, none⟩ = some M ∧ w1.cell? ⟨w.heap.size, 3, none⟩ = some V) (hl : w.heap.size < w1.heap.size) :
    Pw w w1 ((w1.alloc (.cells #[.pointer none, .int .i64 0, .bool true] 116)).alloc (.cells #[.pointer (some ⟨w1.heap.size, 0, none⟩)] 75)) D I M V [] := by
  have hb2 := below_one (w1.alloc (.cells #[.pointer none, .int .i64 0, .bool true] 116)) (.cells #[.pointer (some ⟨w1.heap.size, 0, none⟩)] 75)
  have hb := below_then (below_one w1 (.cells #[.pointer none, .int .i64 0, .bool true] 116)) hb2
  have hz : (w1.alloc (.cells #[.pointer none, .int .i64 0, .bool true] 116)).heap.size = w1.heap.size + 1 := by simp
  have hn := heap_alloc_new (w1.alloc (.cells #[.pointer none, .int .i64 0, .bool true] 116)) (.cells #[.pointer (some ⟨w1.heap.size, 0, none⟩)] 75)
  rw [hz] at hn
  refine ⟨⟨[], (out_new w1).below hb2, rfl⟩, ?_, quad_hold hb hk, hb, hl⟩
  generalize (w1.alloc (.cells #[.pointer none, .int .i64 0, .bool true] 116)).alloc (.cells #[.pointer (some ⟨w1.heap.size, 0, none⟩)] 75) = W at hn ⊢
  simp [World.cell?, hn]
set_option maxRecDepth 100000
open Go.RowKit
set_option linter.unusedVariables false
theorem encD_bt : ∀ {ds : List (ByteArray × Int)}, (∀ d ∈ ds, d.1.size ≤ 16 ∧ 0 ≤ d.2 ∧ d.2 ≤ 4096) → Bt (encD ds)
  | [], _ => bt_nil
  | d :: ds, h => by
    rw [encD_cons]
    have h0 := h d (List.mem_cons_self ..)
    exact (encT_bt (ofS_bt d.1)).append ((encU_bt (by omega)).append (encD_bt fun x hx => h x (List.mem_cons_of_mem _ hx)))
theorem encTs_bt : ∀ (l : List ByteArray), Bt (encTs l)
  | [] => bt_nil
  | s :: l => by rw [encTs_cons]; exact (encT_bt (ofS_bt s)).append (encTs_bt l)
theorem encV_bt : ∀ {l : List Int}, (∀ v ∈ l, 0 ≤ v ∧ v ≤ 4294967295) → Bt (encV l)
  | [], _ => bt_nil
  | v :: l, h => by
    rw [encV_cons]
    have h0 := h v (List.mem_cons_self ..)
    exact (encU_bt (by omega)).append (encV_bt fun x hx => h x (List.mem_cons_of_mem _ hx))
theorem encS_bt {S : Sc} (hf : Fit S) : Bt (encS S) ∧ (encS S).length ≤ 20000 := by
  obtain ⟨⟨n1, n2, n3, n4⟩, fd, fi, fn, fv⟩ := hf
  have u1 := (encU_len (x := S.ds.length) (by omega)).2
  have u2 := (encU_len (x := S.is.length) (by omega)).2
  have u3 := (encU_len (x := S.ns.length) (by omega)).2
  have u4 := (encU_len (x := S.vs.length) (by omega)).2
  have l1 := encD_le fd S.ds.length
  have l2 := encTs_le fi S.is.length
  have l3 := encTs_le fn S.ns.length
  have l4 := encV_le fv S.vs.length
  rw [List.take_length] at l1 l2 l3 l4
  unfold encS
  refine ⟨((((encU_bt (by omega)).append (encD_bt fd)).append ((encU_bt (by omega)).append (encTs_bt _))).append ((encU_bt (by omega)).append (encTs_bt _))).append ((encU_bt (by omega)).append (encV_bt fv)), ?_⟩
  simp only [List.length_append]
  omega
end Go.Proofs.YtdnbjaeeebodkaaGreat
