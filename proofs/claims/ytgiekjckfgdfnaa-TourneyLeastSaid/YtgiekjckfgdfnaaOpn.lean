/- Opening: integers, rows of things, rows of rows of bytes. -/
import Derived.Test.YtgiekjckfgdfnaaCodeb
import Derived.Deep.Slices
import Derived.Deep.Fields
import Derived.ChangeSame
import Derived.ChangeSlices
import Derived.Lib.SmallJoins
namespace Go.Proofs.Ytgiekjckfgdfnaa
set_option maxRecDepth 100000
open Go.ChangeShapes Go.WideShapes Go.ChangeAt Go.RowKit Go.Deep
set_option linter.unusedVariables false
section
variable {H : Type} {enc : TypeId × Value → H} {w : World} {base : Nat} {spare : Nat → Bool} {held : Bool}
theorem ints_gen {fuel : Nat} {k : IntKind} {v : Value} {x : DataW H × List MemPlace} {T E : TypeId} (hT : Try.prog.underlying T = some (.slice E)) (hE : Try.prog.underlying E = some (.int k)) (h1 : Try.prog.cellsOf E = 1)
    (h : DataW.trod enc Try.prog w base spare held fuel T [v] = some x) :
    ∃ vs, Ints k w v vs ∧ (∀ d ∈ vs, (Lit.int k d).wf = true) ∧ vs.length ≤ 9223372036854775807 := by
  rcases open_ints hT hE h1 h with ⟨hcs, _⟩ | ⟨x, l, c, zs, hcs, _, hl, hm, hz, _, hcell, hwz⟩
  · obtain rfl : v = .slice none 0 0 := by simpa using hcs
    exact ⟨[], ⟨none, 0, rfl, by simp, .inl rfl⟩, (fun _ h => by cases h), by simp⟩
  · obtain rfl : v = .slice (some x) l c := by simpa using hcs
    have hlz : l ≤ zs.length := by rw [hz]; split <;> omega
    have ht : (zs.take l).length = l := by rw [List.length_take]; omega
    refine ⟨zs.take l, ⟨some x, c, by rw [ht], by omega, ?_⟩, fun n hn => hwz n (List.mem_of_mem_take hn), by rw [ht]; unfold maxLen at hm; omega⟩
    by_cases h0 : l = 0
    · subst h0; exact .inl (by simp)
    · refine .inr ?_
      obtain ⟨b, off, spot⟩ := x
      have hc := hcell 0 (by omega)
      have hspot : spot = none := by simpa [Addr.add] using World.cell?_spot hc
      subst hspot
      refine ⟨b, off, rfl, World.block_lt_of_cell? w _ hc, fun i hi => ?_⟩
      rw [ht] at hi
      have e : (zs.take l).getD i 0 = zs.getD i 0 := by simp [List.getD, hi]
      rw [e]
      have hh := hcell i (by omega)
      by_cases h0 : i = 0
      · subst h0; simpa [Addr.add] using hh
      · simpa [Addr.add, h0] using hh
theorem rows_gen {α : Type} {fuel n : Nat} {v : Value} {x : DataW H × List MemPlace} {T E : TypeId} (R : α → List Value → Prop) (a0 : α) (hn : 0 < n) (hT : Try.prog.underlying T = some (.slice E)) (hc : Try.prog.cellsOf E = n)
    (hr : ∀ {fuel : Nat} {cs : List Value} {x : DataW H × List MemPlace}, DataW.trod enc Try.prog w base spare held fuel E cs = some x → ∃ a, R a cs ∧ cs.length = n)
    (h : DataW.trod enc Try.prog w base spare held fuel T [v] = some x) :
    ∃ (l : List α) (a : Option Addr) (cap : Nat), v = .slice a l.length cap ∧ l.length ≤ cap ∧ l.length ≤ 9223372036854775807 ∧ (∀ y ∈ l, ∃ cs, R y cs) ∧ (l = [] ∨ ∃ b off, a = some ⟨b, off, none⟩ ∧ b < w.heap.size ∧ ∀ i (hi : i < l.length), ∃ cs, R l[i] cs ∧ ∀ j, j < n → w.cell? ⟨b, off + i * n + j, none⟩ = cs[j]?) := by
  rcases open_slice hT h with ⟨hv, -⟩ | ⟨a, len, cap, m, nn, Dx, Pl, hv, -, hl, hcm, hmm, -, hi⟩
  · obtain rfl : v = .slice none 0 0 := by simpa using hv
    exact ⟨[], none, 0, rfl, by simp, by simp, fun _ h => by (cases h), .inl rfl⟩
  · obtain rfl : v = .slice (some a) len cap := by simpa using hv
    have hlm : len ≤ m := by rw [hmm]; split <;> omega
    have hq : ∀ k, ∃ f : α, k < len → ∃ cs, (∀ j, j < n → w.cell? ((a.add (k * n)).add j) = cs[j]?) ∧ R f cs ∧ cs.length = n := by
      intro k
      by_cases hk : k < len
      · obtain ⟨cs', hc', ht⟩ := hi k (by omega)
        obtain ⟨f, hf, hlen⟩ := hr ht
        rw [hc] at hc'
        obtain ⟨-, -, hat⟩ := World.cells?_some hc'
        exact ⟨f, fun _ => ⟨cs', hat, hf, hlen⟩⟩
      · exact ⟨a0, fun h => absurd h hk⟩
    obtain ⟨q, hq⟩ := Classical.axiomOfChoice hq
    have hle : ((List.range len).map q).length = len := by simp
    have hget : ∀ k (h : k < ((List.range len).map q).length), ((List.range len).map q)[k] = q k := fun k hk => by simp
    refine ⟨(List.range len).map q, some a, cap, by rw [hle], by rw [hle]; exact hl, by rw [hle]; unfold maxLen at hcm; omega, fun y hy => ?_, ?_⟩
    · obtain ⟨k, hk, rfl⟩ := List.getElem_of_mem hy
      obtain ⟨cs, -, h3, -⟩ := hq k (by rw [hle] at hk; exact hk)
      rw [hget k hk]
      exact ⟨cs, h3⟩
    · by_cases h0 : len = 0
      · exact .inl (by subst h0; rfl)
      · refine .inr ?_
        obtain ⟨b, off, spot⟩ := a
        obtain ⟨cs, hcc, -, hlen⟩ := hq 0 (by omega)
        have hc0 := hcc 0 hn
        have hsome : ∃ u, cs[0]? = some u := ⟨cs[0], by rw [List.getElem?_eq_getElem]⟩
        obtain ⟨u, hu⟩ := hsome
        rw [hu] at hc0
        have hspot : spot = none := by simpa [Addr.add] using World.cell?_spot hc0
        subst hspot
        refine ⟨b, off, rfl, by simpa [Addr.add] using World.block_lt_of_cell? w _ hc0, fun k hk => ?_⟩
        obtain ⟨cs, hh, h3, -⟩ := hq k (by rw [hle] at hk; exact hk)
        have ha : (⟨b, off, none⟩ : Addr).add (k * n) = ⟨b, off + k * n, none⟩ := by
          by_cases k0 : k = 0
          · subst k0; simp [Addr.add]
          · have k6 : ¬ k * n = 0 := by simp [Nat.mul_eq_zero]; omega
            simp only [Addr.add, if_neg k6]
        rw [ha] at hh
        refine ⟨cs, by rw [hget k hk]; exact h3, fun j hj => ?_⟩
        have := hh j hj
        have hb : (⟨b, off + k * n, none⟩ : Addr).add j = ⟨b, off + k * n + j, none⟩ := by
          by_cases k0 : j = 0
          · subst k0; simp [Addr.add]
          · simp only [Addr.add, if_neg k0]
        rw [hb] at this
        exact this
/-- A row of rows of bytes. -/
structure Byss (w : World) (v : Value) (L : List (List Int)) : Prop where
  r : ∃ a cap, v = .slice a L.length cap ∧ L.length ≤ cap ∧ L.length ≤ 9223372036854775807 ∧ (L = [] ∨ ∃ b off, a = some ⟨b, off, none⟩ ∧ b < w.heap.size ∧ ∀ i, i < L.length → ∃ q, w.cell? ⟨b, off + i, none⟩ = some q ∧ Ints .u8 w q (L.getD i []))
theorem byss_of {v : Value} {d : DataW H} {p : List MemPlace} (h : DataW.Trod enc Try.prog w base spare held 22 v d p) (hs : ∃ a l c, v = .slice a l c) : ∃ L, Byss w v L ∧ ∀ l ∈ L, Bt l := by
  obtain ⟨a, n, c, rfl⟩ := hs
  obtain ⟨fuel, h⟩ := h
  obtain ⟨l, a, cap, e, h1, h2, h3, h4⟩ := rows_gen (n := 1) (fun (l : List Int) cs => ∃ q, cs = [q] ∧ Ints .u8 w q l ∧ Bt l) [] (by decide) Try.underlying22 (by kernel_rfl)
    (fun {fuel cs x} h => by
      obtain ⟨q, rfl⟩ : ∃ q, cs = [q] := by
        rcases open_ints Try.underlying24 Try.underlying5 (by kernel_rfl) h with ⟨hcs, _⟩ | ⟨x, l, c, zs, hcs, _⟩
        · exact ⟨_, hcs⟩
        · exact ⟨_, hcs⟩
      obtain ⟨vs, k1, k2, -⟩ := ints_gen Try.underlying24 Try.underlying5 (by kernel_rfl) h
      exact ⟨vs, ⟨q, rfl, k1, fun z hz => by have := k2 z hz; simp [Lit.wf, IntKind.min, IntKind.max, IntKind.signed, IntKind.bits] at this; omega⟩, rfl⟩) h
  rw [e]
  refine ⟨l, ⟨a, cap, rfl, h1, h2, h4.imp id ?_⟩, fun z hz => ?_⟩
  · rintro ⟨b, off, rfl, hlt, hc⟩
    refine ⟨b, off, rfl, hlt, fun i hi => ?_⟩
    obtain ⟨cs, ⟨q, rfl, k1, -⟩, hcell⟩ := hc i hi
    have e : l.getD i [] = l[i] := by simp [List.getD, hi]
    rw [e]
    exact ⟨q, by simpa using hcell 0 (by decide), k1⟩
  · obtain ⟨cs, q, -, -, hw⟩ := h3 z hz
    exact hw
end
theorem Byss.below {w w' : World} {v : Value} {L : List (List Int)} (h : Byss w v L) (hb : Below w.heap.size w w') : Byss w' v L := by
  obtain ⟨a, cap, rfl, h1, h2, h3⟩ := h.r
  refine ⟨a, cap, rfl, h1, h2, h3.imp id ?_⟩
  rintro ⟨b, off, rfl, hlt, hc⟩
  exact ⟨b, off, rfl, Nat.lt_of_lt_of_le hlt hb.size, fun i hi => by obtain ⟨q, h3, h4⟩ := hc i hi; exact ⟨q, cell_later hb h3, h4.below hb⟩⟩
theorem Byss.at {w : World} {a : Option Addr} {n cap : Nat} {L : List (List Int)} (h : Byss w (.slice a n cap) L) {i : Nat} (hi : i < L.length) : ∃ b off q, a = some ⟨b, off, none⟩ ∧ b < w.heap.size ∧ w.cell? ⟨b, off + i, none⟩ = some q ∧ Ints .u8 w q (L.getD i []) := by
  obtain ⟨a', cap', e, -, -, h3⟩ := h.r
  injection e with e1 e2 e3
  subst e1
  rcases h3 with h3 | ⟨b, off, rfl, hlt, hc⟩
  · rw [h3] at hi; cases hi
  · obtain ⟨q, h4, h5⟩ := hc i hi; exact ⟨b, off, q, rfl, hlt, h4, h5⟩
end Go.Proofs.Ytgiekjckfgdfnaa
