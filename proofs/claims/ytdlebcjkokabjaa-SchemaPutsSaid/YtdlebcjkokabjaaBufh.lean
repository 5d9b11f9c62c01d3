/- The statement's read: what a reader that goes on answers. -/
import Derived.Test.YtdlebcjkokabjaaBufg
namespace Go.Proofs.Ytdlebcjkokabjaa
set_option maxRecDepth 100000
open Go.RowKit
set_option linter.unusedVariables false
abbrev askO (d u i : Int) (f : Nat) (t : ByteArray) (m : Int) : Obj := .cells #[.int .i64 d, .int .u64 u, .int .i64 i, .float .f64 f, .string t, .int .i64 m] 119
abbrev gotO (u i : Int) (t : ByteArray) (n e : Int) : Obj := .cells #[.int .u64 u, .int .i64 i, .string t, .int .i64 n, .int .i64 e] 115
abbrev askV (d u i : Int) (f : Nat) (t : ByteArray) (m : Int) : Value := .agg #[.int .i64 d, .int .u64 u, .int .i64 i, .float .f64 f, .string t, .int .i64 m]
abbrev gotV (u i : Int) (t : ByteArray) (n e : Int) : Value := .agg #[.int .u64 u, .int .i64 i, .string t, .int .i64 n, .int .i64 e]
/-- What the statement's read leaves. -/
def RdP (w : World) (N : Nat) (b : List Int) (p n e : Nat) (r : Ending) (w' : World) : Prop := r = .returned (.bool true) ∧ InAt w' N b (if e = 0 then p + n else p) e ∧ w.grownBy w' (some N)
theorem two_below (w : World) (o1 o2 : Obj) : Below w.heap.size w ((w.alloc o1).alloc o2) := below_then (below_one w o1) (below_one _ o2)
theorem cell_far {w w' : World} {N : Nat} {a : Addr} {v : Value} (hg : w.grownBy w' (some N)) (h : w.cell? a = some v) (hne : a.block ≠ N) : w'.cell? a = some v := by
  rw [hg.cell_far a (World.block_lt_of_cell? w a h) (by simpa using hne)]; exact h
theorem box_cells (w : World) (d u i : Int) (f : Nat) (t : ByteArray) (m gu gi : Int) (gt : ByteArray) (gn ge : Int) (W : World) (hW : (w.alloc (askO d u i f t m)).alloc (gotO gu gi gt gn ge) = W) :
    (W.cell? ⟨w.heap.size, 1, none⟩ = some (.int .u64 u) ∧ W.cell? ⟨w.heap.size, 5, none⟩ = some (.int .i64 m)) ∧
    W.cell? ⟨w.heap.size + 1, 0, none⟩ = some (.int .u64 gu) ∧ W.cell? ⟨w.heap.size + 1, 1, none⟩ = some (.int .i64 gi) ∧ W.cell? ⟨w.heap.size + 1, 2, none⟩ = some (.string gt) ∧ W.cell? ⟨w.heap.size + 1, 3, none⟩ = some (.int .i64 gn) ∧ Below w.heap.size w W := by
  subst hW
  refine ⟨⟨?_, ?_⟩, ?_, ?_, ?_, ?_, two_below w _ _⟩
  · rw [(below_one (w.alloc (askO d u i f t m)) _).cell (by simp)]; simp [go_sem]
  · rw [(below_one (w.alloc (askO d u i f t m)) _).cell (by simp)]; simp [go_sem]
  all_goals simp [go_sem]
theorem bN_bt {most : Int} {b : List Int} (hb : Bt b) : Bt (bN most b).1 := by
  unfold bN
  split
  · exact bt_nil
  · split
    · exact bt_nil
    · split
      · exact bt_nil
      · exact fun x hx => hb x (List.mem_of_mem_drop (List.mem_of_mem_take hx))
end Go.Proofs.Ytdlebcjkokabjaa
