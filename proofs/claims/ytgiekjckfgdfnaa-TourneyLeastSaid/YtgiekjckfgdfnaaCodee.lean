/- The reference's I: bytes turned about in place. -/
import Derived.Test.YtgiekjckfgdfnaaCodeb
import Derived.Test.YtgiekjckfgdfnaaFloi
namespace Go.Proofs.Ytgiekjckfgdfnaa
set_option maxRecDepth 100000
open Go.RowKit
set_option linter.unusedVariables false
theorem encP_one (c : Int) : encP [c] = pieT c := by simp [encP]
theorem ints_new {k : IntKind} {w : World} {E : TypeId} {zs : List Int} {n : Nat} {fr : Nat × Nat} (hn : zs.length = n) : Ints k (w.alloc (.cells (zs.map (Value.int k)).toArray E fr)) (.slice (some ⟨w.heap.size, 0, none⟩) n n) zs := by
  subst hn
  refine ⟨_, _, rfl, Nat.le_refl _, .inr ⟨w.heap.size, 0, rfl, by simp, fun i hi => ?_⟩⟩
  rw [Nat.zero_add, cell_of_row _ _ i _ E fr (heap_alloc_new w _)]
  rw [List.getElem?_toArray, List.getElem?_map]
  simp [List.getD, hi]
theorem cap_max {n : Int} (h0 : 0 ≤ n) (h1 : n ≤ 1000) : n ≤ maxLen := by unfold maxLen; omega
set_option maxRecDepth 100000
open Go.RowKit
set_option linter.unusedVariables false
theorem lit_below {w wr w1 : World} {o : Obj} (hb : Below w.heap.size w wr) (hg : (wr.alloc o).grownBy w1 (some wr.heap.size)) : Below w.heap.size w w1 :=
  (hb.alloc hb.size o).grown hg (by have := hb.size; simp; omega) (fun k hk => by have e : wr.heap.size = k := Option.some.inj hk; have := hb.size; omega)
theorem bytesN_ge {x k : Nat} (hx : x < 18446744073709551616) (h : k < bytesN x) : 0 < x / 256 ^ k := by
  have := bytesN_is x hx
  rcases this.2 with h0 | h0
  · omega
  · have h1 : 256 ^ k ≤ 256 ^ (bytesN x - 1) := Nat.pow_le_pow_right (by decide) (by omega)
    exact Nat.div_pos (by omega) (p256_pos k)
theorem bytesN_done {x k : Nat} (hx : x < 18446744073709551616) (h : bytesN x ≤ k) : x / 256 ^ k = 0 := by
  have := (bytesN_is x hx).1
  have h1 : 256 ^ bytesN x ≤ 256 ^ k := Nat.pow_le_pow_right (by decide) h
  exact Nat.div_eq_of_lt (by omega)
theorem bigN_succ (x k : Nat) : bigN x (k + 1) = [((x / 256 ^ k % 256 : Nat) : Int)] ++ bigN x k := rfl
def slLen : Value → Nat
  | .slice _ n _ => n
  | _ => 0
set_option maxRecDepth 100000
open Go.RowKit
set_option linter.unusedVariables false
/-- The first k bytes turned about. -/
def flipL (k : Nat) (l : List Int) : List Int := (l.take k).map (fun x => 255 - x) ++ l.drop k
theorem flip_len (k : Nat) (l : List Int) : (flipL k l).length = l.length := by simp [flipL]; omega
theorem flip_zero (l : List Int) : flipL 0 l = l := by simp [flipL]
theorem flip_all (l : List Int) : flipL l.length l = l.map (fun x => 255 - x) := by simp [flipL]
theorem flip_getD (k : Nat) (l : List Int) (h : k < l.length) : (flipL k l).getD k 0 = l.getD k 0 := by
  unfold flipL
  rw [List.getD, List.getElem?_append_right (by simp; omega)]
  simp [List.getD]
  congr 2; omega
theorem flip_set (k : Nat) (l : List Int) (h : k < l.length) : (flipL k l).set k (255 - l.getD k 0) = flipL (k + 1) l := by
  unfold flipL
  rw [List.set_append_right _ _ (by simp; omega), List.take_succ_eq_append_getElem h, List.map_append, List.append_assoc]
  congr 1
  rw [List.drop_eq_getElem_cons h]
  have e : k - (List.map (fun x => 255 - x) (List.take k l)).length = 0 := by simp; omega
  rw [e, List.getD, List.getElem?_eq_getElem h]
  rfl
theorem flip_byte (y j : Nat) (hj : j < 8) (hy : y < 18446744073709551616) : (255 : Int) - ((y / 256 ^ j % 256 : Nat) : Int) = (((18446744073709551615 - y) / 256 ^ j % 256 : Nat) : Int) := by
  have h : j = 0 ∨ j = 1 ∨ j = 2 ∨ j = 3 ∨ j = 4 ∨ j = 5 ∨ j = 6 ∨ j = 7 := by omega
  rcases h with rfl | rfl | rfl | rfl | rfl | rfl | rfl | rfl <;> simp only [show (256 : Nat) ^ 0 = 1 by rfl, show (256 : Nat) ^ 1 = 256 by rfl, show (256 : Nat) ^ 2 = 65536 by rfl, show (256 : Nat) ^ 3 = 16777216 by rfl, show (256 : Nat) ^ 4 = 4294967296 by rfl, show (256 : Nat) ^ 5 = 1099511627776 by rfl, show (256 : Nat) ^ 6 = 281474976710656 by rfl, show (256 : Nat) ^ 7 = 72057594037927936 by rfl] <;> omega
theorem flip_big (y : Nat) (hy : y < 18446744073709551616) : ∀ n, n ≤ 8 → (bigN y n).map (fun x => 255 - x) = bigN (18446744073709551615 - y) n
  | 0, _ => rfl
  | n + 1, h => by
    rw [bigN, bigN, List.map_cons, flip_big y hy n (by omega), flip_byte y n (by omega) hy]
theorem bt_getD {l : List Int} (h : Bt l) (k : Nat) : 0 ≤ l.getD k 0 ∧ l.getD k 0 ≤ 255 := h.getD (by decide) (by decide) k
end Go.Proofs.Ytgiekjckfgdfnaa
