/- Two variables of which one is made by a drawn statement. -/
import Derived.Test.YtdnbjaeeebodkaaGreatLaid2
import Derived.Test.YtdnbjaeeebodkaaGreatNumx
import Derived.Test.YtdnbjaeeebodkaaGreatDivw
namespace Go.Proofs.YtdnbjaeeebodkaaGreat
set_option maxRecDepth 100000
open Go.RowKit
set_option linter.unusedVariables false
theorem bcell {W w1 : World} (hb : Below W.heap.size W w1) : (∀ b o, b < W.heap.size → w1.cell? ⟨b, o, none⟩ = W.cell? ⟨b, o, none⟩) ∧ (∀ b o, b < W.heap.size → w1.frozen? ⟨b, o, none⟩ = W.frozen? ⟨b, o, none⟩) :=
  ⟨fun b o h => hb.cell (p := ⟨b, o, none⟩) h, fun b o h => hb.frozen (p := ⟨b, o, none⟩) h⟩
theorem x_lt {w1 w2 : World} {o : Obj} (h : Below (w1.alloc o).heap.size (w1.alloc o) w2) : w1.heap.size < w2.heap.size := by have := h.size; simp at this; omega
theorem from_drew {W w2 : World} (hb : Below W.drew.heap.size W.drew w2) : Below W.heap.size W w2 := (Below.refl _ _).drew.trans hb
theorem from_alloc {W w2 : World} {o : Obj} (hb : Below (W.alloc o).drew.heap.size (W.alloc o).drew w2) : Below W.heap.size W w2 :=
  (below_one W o).drew.trans (hb.mono (below_one W o).drew.size)
/-- What the variables x and y hold behind their second statement. -/
def Meet (w : World) (X M : Nat) (a b : Value) (r : Int) (wx : World) : Prop :=
  ∃ u t, wx.cell? ⟨M, 0, none⟩ = some u ∧ wx.cell? ⟨M, 1, none⟩ = some t ∧ IsNum wx (.agg #[u, t]) (r + 1) ∧ wx.cell? ⟨X, 0, none⟩ = some a ∧ wx.cell? ⟨X, 1, none⟩ = some b ∧ IsNum wx (.agg #[a, b]) r ∧ Below w.heap.size w wx
theorem set_cells {w w1 : World} {N : Nat} {T : TypeId} (h : Kept w N T w1) (u v : Value) :
    ((w1.setCell ⟨N, 0, none⟩ u).setCell ⟨N, 1, none⟩ v).cell? ⟨N, 0, none⟩ = some u ∧ ((w1.setCell ⟨N, 0, none⟩ u).setCell ⟨N, 1, none⟩ v).cell? ⟨N, 1, none⟩ = some v := by
  obtain ⟨h1, h2, x, y, h3⟩ := h
  have h4 := set_two (u := u) (v := v) h3
  exact ⟨by simp [World.cell?, h4], by simp [World.cell?, h4]⟩
theorem meet_alloc {w w1 w3 : World} {a b u t : Value} {r : Int} (hw : Below w.heap.size w (w1.alloc (.cells #[a, b] 108))) (hx : IsNum (w1.alloc (.cells #[a, b] 108)) (.agg #[a, b]) r)
    (h : Below (w1.alloc (.cells #[a, b] 108)).heap.size (w1.alloc (.cells #[a, b] 108)) w3) (hy : IsNum w3 (.agg #[u, t]) (r + 1)) :
    Meet w w1.heap.size w3.heap.size a b r (w3.alloc (.cells #[u, t] 108)) := by
  have h2 := below_one w3 (.cells #[u, t] 108)
  exact ⟨u, t, by simp [go_sem], by simp [go_sem], hy.below h2, cell_later h2 (cell_later h (by simp [go_sem])), cell_later h2 (cell_later h (by simp [go_sem])), (hx.below h).below h2, (hw.trans (h.mono hw.size)).trans (h2.mono (by have := hw.size; have := h.size; omega))⟩
theorem meet_set {w w1 V w3 : World} {M : Nat} {a b u t : Value} {r : Int} (hw : Below w.heap.size w (w1.alloc (.cells #[a, b] 108))) (hx : IsNum (w1.alloc (.cells #[a, b] 108)) (.agg #[a, b]) r)
    (hV : Below (w1.alloc (.cells #[a, b] 108)).heap.size (w1.alloc (.cells #[a, b] 108)) V) (hk : Kept V M 108 w3) (hy : IsNum w3 (.agg #[u, t]) (r + 1)) :
    Meet w w1.heap.size M a b r ((w3.setCell ⟨M, 0, none⟩ u).setCell ⟨M, 1, none⟩ t) := by
  have hM : w1.heap.size < M := by have := x_lt hV; have := hk.2.1; omega
  have h := hV.trans (hk.1.mono hV.size)
  have hs := set_cells hk u t
  have hx3 := hx.below h
  obtain ⟨h1, h2, p, q, h3⟩ := id hk
  obtain ⟨cur, h4⟩ := heap_setCell_cells (p := ⟨M, 0, none⟩) (u := u) h3
  refine ⟨u, t, hs.1, hs.2, hk.num hy, ?_, ?_, (hx3.set u h3 (by decide)).set t h4 (by decide), ?_⟩
  · rw [World.cell?_setCell_far _ _ _ _ (by simp; omega), World.cell?_setCell_far _ _ _ _ (by simp; omega)]; exact cell_later h (by simp [go_sem])
  · rw [World.cell?_setCell_far _ _ _ _ (by simp; omega), World.cell?_setCell_far _ _ _ _ (by simp; omega)]; exact cell_later h (by simp [go_sem])
  · have hsz := hw.size
    simp only [World.size_alloc] at hsz
    exact ((hw.trans (h.mono hw.size)).setCell (by simp; omega) _).setCell (by simp; omega) _
abbrev SixAt (X M P : Nat) (a b c d e f : Value) (w : World) : Prop :=
  (w.cell? ⟨X, 0, none⟩ = some a ∧ w.cell? ⟨X, 1, none⟩ = some b) ∧ (w.cell? ⟨M, 0, none⟩ = some c ∧ w.cell? ⟨M, 1, none⟩ = some d) ∧ (w.cell? ⟨P, 0, none⟩ = some e ∧ w.cell? ⟨P, 1, none⟩ = some f)
theorem SixAt.call {X M P : Nat} {a b c d e f : Value} {w w' : World} (h : SixAt X M P a b c d e f w) (hb : Below w.heap.size w w') : SixAt X M P a b c d e f w' := by
  obtain ⟨⟨h1, h2⟩, ⟨h3, h4⟩, h5, h6⟩ := h
  exact ⟨⟨cell_later hb h1, cell_later hb h2⟩, ⟨cell_later hb h3, cell_later hb h4⟩, cell_later hb h5, cell_later hb h6⟩
end Go.Proofs.YtdnbjaeeebodkaaGreat
