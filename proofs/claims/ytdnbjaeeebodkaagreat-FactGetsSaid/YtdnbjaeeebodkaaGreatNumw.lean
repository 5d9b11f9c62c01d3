/- What the reference of layer 2 makes of a list of words: its number; and whether a list is the trim one of a number. -/
import Derived.Test.YtdnbjaeeebodkaaGreatNatv
import Derived.Test.YtdnbjaeeebodkaaGreatPower
import Derived.Deep.RegionWith
namespace Go.Proofs.YtdnbjaeeebodkaaGreat
set_option maxRecDepth 100000
open Go.RowKit
set_option linter.unusedVariables false
theorem below_drew' {w w' : World} (h : Below w.drew.heap.size w.drew w') : Below w.heap.size w w' := (Below.refl _ _).drew.trans h
/-- A variable that holds a number. -/
def NumBox (w : World) (N : Nat) (z : Int) (wr : World) : Prop :=
  (∃ x y, wr.cell? ⟨N, 0, none⟩ = some x ∧ wr.cell? ⟨N, 1, none⟩ = some y ∧ IsNum wr (.agg #[x, y]) z) ∧ Kept w N 108 wr
theorem set_cells' {w w1 : World} {N : Nat} {T : TypeId} (h : Kept w N T w1) (u v : Value) :
    ((w1.setCell ⟨N, 0, none⟩ u).setCell ⟨N, 1, none⟩ v).cell? ⟨N, 0, none⟩ = some u ∧ ((w1.setCell ⟨N, 0, none⟩ u).setCell ⟨N, 1, none⟩ v).cell? ⟨N, 1, none⟩ = some v := by
  obtain ⟨h1, h2, x, y, h3⟩ := h
  have h4 := set_two (u := u) (v := v) h3
  exact ⟨by simp [World.cell?, h4], by simp [World.cell?, h4]⟩
theorem box_store {w w2 : World} {N : Nat} {u s : Value} {z : Int} (hk : Kept w N 108 w2) (hq : IsNum w2 (.agg #[u, s]) z) : NumBox w N z ((w2.setCell ⟨N, 0, none⟩ u).setCell ⟨N, 1, none⟩ s) :=
  ⟨⟨u, s, (set_cells' hk u s).1, (set_cells' hk u s).2, hk.num hq⟩, hk.store u s⟩
theorem Kept.far {w w1 : World} {R N : Nat} {T : TypeId} (h : Kept w R T w1) (hne : R ≠ N) (hN : w.heap.size ≤ N) (u v : Value) : Kept w R T ((w1.setCell ⟨N, 0, none⟩ u).setCell ⟨N, 1, none⟩ v) := by
  obtain ⟨h1, h2, x, y, h3⟩ := h
  refine ⟨(h1.setCell hN u).setCell hN v, h2, x, y, ?_⟩
  rw [Below.heap_setCell _ _ _ _ hne, Below.heap_setCell _ _ _ _ hne]; exact h3
theorem NumBox.call {w w1 w2 : World} {N : Nat} {z : Int} (h : NumBox w N z w1) (hb : Below w1.heap.size w1 w2) : NumBox w N z w2 := by
  obtain ⟨⟨x, y, h1, h2, h3⟩, h4⟩ := h
  exact ⟨⟨x, y, cell_later hb h1, cell_later hb h2, h3.below hb⟩, h4.call hb⟩
theorem NumBox.cells {w w1 : World} {N : Nat} {z : Int} (h : NumBox w N z w1) : ∃ nb np nl nc, w1.cell? ⟨N, 0, none⟩ = some (.bool nb) ∧ w1.cell? ⟨N, 1, none⟩ = some (.slice np nl nc) ∧ IsNum w1 (.agg #[.bool nb, .slice np nl nc]) z := by
  obtain ⟨⟨x, y, h1, h2, h3⟩, h4⟩ := h
  obtain ⟨nb, np, nl, nc, e⟩ := h3.shape
  simp only [Value.agg.injEq, Array.mk.injEq, List.cons.injEq, and_true] at e
  obtain ⟨rfl, rfl⟩ := e
  exact ⟨nb, np, nl, nc, h1, h2, h3⟩
theorem isNum_zero {w : World} : IsNum w (.agg #[.bool false, .slice none 0 0]) 0 := ⟨false, _, [], rfl, ⟨none, 0, rfl, by simp, .inl rfl⟩, Typed.none, Dig.nil, .inl rfl, (fun e => by cases e), rfl⟩
theorem q_sized (n : Nat) : (4294967296 : Int) ^ n ≤ 1000 ^ (4 * n) := by
  have : (4294967296 : Nat) ^ n ≤ (1000 ^ 4) ^ n := Nat.pow_le_pow_left (by decide) n
  rw [← Nat.pow_mul] at this
  have e1 : ((4294967296 ^ n : Nat) : Int) = (4294967296 : Int) ^ n := by simp
  have e2 : ((1000 ^ (4 * n) : Nat) : Int) = (1000 : Int) ^ (4 * n) := by simp
  omega
theorem sized_words {z : Int} {n : Nat} (h0 : 0 ≤ z) (h1 : z < 4294967296 ^ n) : Sized (4 * n) z := by
  have := q_sized n
  have := p_pos (4 * n)
  unfold Sized
  omega
theorem sized_word {x : Int} (h0 : 0 ≤ x) (h1 : x ≤ 4294967296) (n : Nat) : Sized (4 * n + 4) x := by
  have h2 := p_mono (m := 4) (n := 4 * n + 4) (by omega)
  have e : (1000 : Int) ^ 4 = 1000000000000 := by decide
  unfold Sized
  omega
theorem drop_val {a : List Int} {n : Nat} (hn : n < a.length) (x : Int) (hx : a.getD n 0 = x) : wv (a.drop n) = wv (a.drop (n + 1)) * 4294967296 + x := by
  have := wv_head (a := a.drop n) (by rw [List.length_drop]; omega)
  have e : (a.drop n).getD 0 0 = x := by rw [← hx]; simp [List.getD]
  rw [this, e, List.drop_drop]; omega
theorem drop_lt {a : List Int} (hd : Wd a) (n : Nat) : 0 ≤ wv (a.drop n) ∧ wv (a.drop n) < 4294967296 ^ a.length := by
  have h1 := wv_range (hd.drop n)
  have h2 := q_mono (m := (a.drop n).length) (n := a.length) (by rw [List.length_drop]; omega)
  omega
end Go.Proofs.YtdnbjaeeebodkaaGreat
