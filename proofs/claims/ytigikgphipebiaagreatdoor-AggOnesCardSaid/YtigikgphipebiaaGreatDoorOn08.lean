/- Contracts that the law leans on, pruned and merged: Codei. -/
import Derived.Laws.BytesArg
import Derived.Test.YtigikgphipebiaaGreatDoorOn07
/- The program's GetF and GetT. -/
namespace Go.Proofs.YtigikgphipebiaaGreatDoor
set_option maxRecDepth 100000
open Go.RowKit
set_option linter.unusedVariables false
set_option maxRecDepth 100000
open Go.RowKit
set_option linter.unusedVariables false
def Box2 (w : World) (g : Nat) (a b : Int) : Prop := w.heap[g]? = some (.cells #[.int .u64 a, .int .u64 b] 262)
theorem Box2.set0 {w : World} {g : Nat} {a b : Int} (h : Box2 w g a b) (x : Int) : Box2 (w.setCell ⟨g, 0, none⟩ (.int .u64 x)) g x b := heap_setCell_same w g 0 _ _ (.int .u64 x) h
theorem Box2.set1 {w : World} {g : Nat} {a b : Int} (h : Box2 w g a b) (x : Int) : Box2 (w.setCell ⟨g, 1, none⟩ (.int .u64 x)) g a x := heap_setCell_same w g 1 _ _ (.int .u64 x) h
theorem Box2.far {w : World} {g k j : Nat} {a b : Int} (h : Box2 w g a b) (hk : g ≠ k) (x : Value) : Box2 (w.setCell ⟨k, j, none⟩ x) g a b := by
  unfold Box2
  rw [heap_setCell_other w ⟨k, j, none⟩ g x hk]; exact h
theorem Box2.below {w w' : World} {g : Nat} {a b : Int} {B : Nat} (h : Box2 w g a b) (hb : Below B w w') (hg : g < B) : Box2 w' g a b := by
  unfold Box2
  rw [hb.block g hg]; exact h
theorem Box2.new (w : World) (a b : Int) : Box2 (w.alloc (.cells #[.int .u64 a, .int .u64 b] 262)) w.heap.size a b := heap_alloc_new w _
set_option maxRecDepth 100000
open Go.RowKit
set_option linter.unusedVariables false
set_option maxRecDepth 100000
open Go.RowKit
set_option linter.unusedVariables false
def strB (l : List Int) : ByteArray := ⟨(l.map fun x => UInt8.ofNat x.toNat).toArray⟩
theorem conv_ints {w : World} {v : Value} {l : List Int} (h : Ints .u8 w v l) (hb : Bt l) : (convert 61 9 v).run Tryz.prog w = .ok (.string (strB l)) w := by
  obtain ⟨a, cap, rfl, -, h0 | ⟨b, off, rfl, hbl, hcell⟩⟩ := h
  · subst h0
    show (convert 61 9 (.slice a 0 cap)).run Tryz.prog w = _
    rw [run_convert_bytes_string w 61 9 5 _ 0 cap Tryz.underlying61 Tryz.underlying5 Tryz.underlying9]
    cases a <;> simp [Conv.bytesToString, loadCells]
    all_goals rfl
  have hlen : (l.map fun x => UInt8.ofNat x.toNat).length = l.length := by simp
  have := run_convert_bytes_back (P := Tryz.prog) w 61 9 5 ⟨b, off, none⟩ cap (l.map fun x => UInt8.ofNat x.toNat) Tryz.underlying61 Tryz.underlying5 Tryz.underlying9 (fun j hj => by
    have hj2 : j < l.length := by simpa using hj
    have hc := hcell j hj2
    have hm := hb _ (List.getElem_mem hj2)
    have e : l.getD j 0 = (((l.map fun x => UInt8.ofNat x.toNat)[j]).toNat : Int) := by
      rw [List.getElem_map, UInt8.toNat_ofNat_of_lt' (by show _ < 256; omega), List.getD, List.getElem?_eq_getElem hj2]
      show l[j] = _
      omega
    rw [e] at hc
    by_cases h0 : j = 0
    · subst h0; simpa [Addr.add] using hc
    · simpa [Addr.add, h0] using hc)
  rw [hlen] at this
  exact this
theorem keyed_key {x : Nat} (hx : W64 x) : Keyed (keyI x) := by
  unfold W64 at hx
  unfold keyI Keyed
  split
  · left; rfl
  · rename_i hn
    have hn : isNaNB x = false := by simpa using hn
    unfold isNaNB at hn
    rw [decide_eq_false_iff_not] at hn
    split
    · rename_i hg
      unfold negB at hg
      rw [decide_eq_true_iff] at hg
      right; omega
    · rename_i hg
      unfold negB at hg
      rw [decide_eq_true_iff] at hg
      right; omega
end Go.Proofs.YtigikgphipebiaaGreatDoor
