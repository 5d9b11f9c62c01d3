/- Layer 12: facts in memory, as they come in. -/
import Derived.Test.YtdnbjaeeebodkaaFacd
import Derived.Test.YtdnbjaeeebodkaaSchm
namespace Go.Proofs.Ytdnbjaeeebodkaa
set_option maxRecDepth 100000
open Go.RowKit Go.ChangeShapes Go.WideShapes Go.Deep
set_option linter.unusedVariables false
/-- A slice value reads as a list of floats. -/
def Fls (w : World) (v : Value) (xs : List Nat) : Prop :=
  ∃ a cap, v = .slice a xs.length cap ∧ xs.length ≤ cap ∧ (xs = [] ∨ ∃ b off, a = some ⟨b, off, none⟩ ∧ b < w.heap.size ∧ ∀ i, i < xs.length → w.cell? ⟨b, off + i, none⟩ = some (.float .f64 (xs.getD i 0)))
theorem Fls.below {w w' : World} {v : Value} {xs : List Nat} (h : Fls w v xs) (hb : Below w.heap.size w w') : Fls w' v xs := by
  obtain ⟨a, cap, rfl, h1, h3⟩ := h
  refine ⟨a, cap, rfl, h1, ?_⟩
  rcases h3 with h3 | ⟨b, off, rfl, hlt, hc⟩
  · exact .inl h3
  · exact .inr ⟨b, off, rfl, Nat.lt_of_lt_of_le hlt hb.size, fun i hi => (hb.cell (p := ⟨b, _, none⟩) hlt).trans (hc i hi)⟩
/-- The three slices of a fact. -/
structure Fact3 (w : World) (C I N : Value) (f : Fa) : Prop where
  c : Ints .i64 w C f.cs
  i : Ints .i64 w I f.is
  n : Fls w N f.ns
theorem Fact3.below {w w' : World} {C I N : Value} {f : Fa} (h : Fact3 w C I N f) (hb : Below w.heap.size w w') : Fact3 w' C I N f := ⟨h.c.below hb, h.i.below hb, h.n.below hb⟩
theorem Fact3.slices {w : World} {C I N : Value} {f : Fa} (h : Fact3 w C I N f) : (∃ a c, C = .slice a f.cs.length c) ∧ (∃ a c, I = .slice a f.is.length c) ∧ ∃ a c, N = .slice a f.ns.length c := by
  obtain ⟨⟨a, c, h1, -⟩, ⟨a2, c2, h2, -⟩, a3, c3, h3, -⟩ := h
  exact ⟨⟨a, c, h1⟩, ⟨a2, c2, h2⟩, a3, c3, h3⟩
/-- The numbers of a fact fit. -/
structure FaWf (f : Fa) : Prop where
  c : ∀ x ∈ f.cs, -9223372036854775808 ≤ x ∧ x ≤ 9223372036854775807
  i : ∀ x ∈ f.is, -9223372036854775808 ≤ x ∧ x ≤ 9223372036854775807
  n : ∀ x ∈ f.ns, W64 x
  l : f.cs.length ≤ 9223372036854775807 ∧ f.is.length ≤ 9223372036854775807 ∧ f.ns.length ≤ 9223372036854775807
abbrev FactV (C I N : Value) : Value := .agg #[C, I, N]
/-- A slice of facts: three cells each. -/
def Facts (w : World) (v : Value) (l : List Fa) : Prop :=
  ∃ a cap, v = .slice a l.length cap ∧ l.length ≤ cap ∧ l.length ≤ 9223372036854775807 ∧ (l = [] ∨ ∃ b off, a = some ⟨b, off, none⟩ ∧ b < w.heap.size ∧
    ∀ i (h : i < l.length), ∃ C I N, (w.cell? ⟨b, off + i * 3, none⟩ = some C ∧ w.cell? ⟨b, off + i * 3 + 1, none⟩ = some I ∧ w.cell? ⟨b, off + i * 3 + 2, none⟩ = some N) ∧ Fact3 w C I N l[i])
theorem Facts.below {w w' : World} {v : Value} {l : List Fa} (h : Facts w v l) (hb : Below w.heap.size w w') : Facts w' v l := by
  obtain ⟨a, cap, rfl, h1, h2, h3⟩ := h
  refine ⟨a, cap, rfl, h1, h2, ?_⟩
  rcases h3 with h3 | ⟨b, off, rfl, hlt, hc⟩
  · exact .inl h3
  · refine .inr ⟨b, off, rfl, Nat.lt_of_lt_of_le hlt hb.size, fun i hi => ?_⟩
    obtain ⟨C, I, N, ⟨q0, q1, q2⟩, q3⟩ := hc i hi
    exact ⟨C, I, N, ⟨(hb.cell (p := ⟨b, _, none⟩) hlt).trans q0, (hb.cell (p := ⟨b, _, none⟩) hlt).trans q1, (hb.cell (p := ⟨b, _, none⟩) hlt).trans q2⟩, q3.below hb⟩
theorem longs_of {H : Type} {enc : TypeId × Value → H} {w : World} {base : Nat} {spare : Nat → Bool} {held : Bool} {fuel : Nat} {v : Value} {x : DataW H × List MemPlace} {T E : TypeId} (hT : Try.prog.underlying T = some (.slice E)) (hE : Try.prog.underlying E = some (.int .i64)) (h1 : Try.prog.cellsOf E = 1)
    (h : DataW.trod enc Try.prog w base spare held fuel T [v] = some x) :
    ∃ vs, Ints .i64 w v vs ∧ (∀ d ∈ vs, -9223372036854775808 ≤ d ∧ d ≤ 9223372036854775807) ∧ vs.length ≤ 9223372036854775807 := by
  rcases open_ints hT hE h1 h with ⟨hcs, _⟩ | ⟨x, l, c, zs, hcs, _, hl, hm, hz, _, hcell, hwz⟩
  · obtain rfl : v = .slice none 0 0 := by simpa using hcs
    exact ⟨[], ⟨none, 0, rfl, by simp, .inl rfl⟩, (fun _ h => by cases h), by simp⟩
  · obtain rfl : v = .slice (some x) l c := by simpa using hcs
    have hlz : l ≤ zs.length := by rw [hz]; split <;> omega
    have ht : (zs.take l).length = l := by rw [List.length_take]; omega
    refine ⟨zs.take l, ⟨some x, c, by rw [ht], by omega, ?_⟩, fun n hn => ?_, by rw [ht]; unfold maxLen at hm; omega⟩
    · by_cases h0 : l = 0
      · subst h0; exact .inl (by simp)
      · refine .inr ?_
        obtain ⟨b, off, spot⟩ := x
        have hc := hcell 0 (by omega)
        have hspot : spot = none := by simpa [Addr.add] using World.cell?_spot hc
        subst hspot
        refine ⟨b, off, rfl, World.block_lt_of_cell? w _ hc, fun i hi => ?_⟩
        rw [ht] at hi
        have e : (zs.take l).getD i 0 = zs.getD i 0 := by simp [List.getD, hi]
        rw [e]
        have hh := hcell i (by omega)
        by_cases h0 : i = 0
        · subst h0; simpa [Addr.add] using hh
        · simpa [Addr.add, h0] using hh
    · have := hwz n (List.mem_of_mem_take hn)
      simp [Lit.wf, IntKind.min, IntKind.max, IntKind.signed, IntKind.bits] at this
      omega
theorem trod_f64 {H : Type} {enc : TypeId × Value → H} {P : Program} {w : World} {base : Nat} {spare : Nat → Bool} {held : Bool} {fuel : Nat} {t : TypeId} {cs : List Value} {x : DataW H × List MemPlace} {k : FloatKind} (ht : P.underlying t = some (.float k)) (h : DataW.trod enc P w base spare held fuel t cs = some x) : ∃ n, cs = [.float k n] ∧ (Lit.float k n).wf = true := by
  cases fuel with
  | zero => simp [DataW.trod] at h
  | succ n =>
    unfold DataW.trod at h
    rw [ht] at h
    split at h <;> simp_all
theorem fls_of {H : Type} {enc : TypeId × Value → H} {w : World} {base : Nat} {spare : Nat → Bool} {held : Bool} {fuel : Nat} {v : Value} {x : DataW H × List MemPlace} {T E : TypeId} (hT : Try.prog.underlying T = some (.slice E)) (hE : Try.prog.underlying E = some (.float .f64)) (hc1 : Try.prog.cellsOf E = 1)
    (h : DataW.trod enc Try.prog w base spare held fuel T [v] = some x) : ∃ xs, Fls w v xs ∧ (∀ x ∈ xs, W64 x) ∧ xs.length ≤ 9223372036854775807 := by
  rcases DataW.trod_slice hT h with ⟨hv, -⟩ | ⟨a, len, cap, elems, rest, n, _, hv, -, hb, hl, hm, hlen, hel, -, -⟩
  · obtain rfl : v = .slice none 0 0 := by simpa using hv
    exact ⟨[], ⟨none, 0, rfl, by simp, .inl rfl⟩, (fun _ h => by cases h), by simp⟩
  obtain rfl : v = .slice (some a) len cap := by simpa using hv
  have each : ∀ i, ∃ m, i < len → w.cell? (a.add i) = some (.float .f64 m) ∧ W64 m := by
    intro i
    by_cases hi : i < len
    · have h1 := hel i hi
      rw [List.getElem?_eq_getElem (by omega), hc1, Nat.mul_one, Option.bind_eq_some_iff] at h1
      obtain ⟨cs', hcs, hy'⟩ := h1
      obtain ⟨m, rfl, hw⟩ := trod_f64 hE hy'
      exact ⟨m, fun _ => ⟨cell_of_cells?_one hcs, by simpa [Lit.wf, W64] using hw⟩⟩
    · exact ⟨0, fun h => absurd h hi⟩
  obtain ⟨q, hq⟩ := Classical.axiomOfChoice each
  have hle : ((List.range len).map q).length = len := by simp
  have hget : ∀ k, k < len → ((List.range len).map q).getD k 0 = q k := fun k hk => by simp [List.getD, hk]
  refine ⟨(List.range len).map q, ⟨some a, cap, by rw [hle], by rw [hle]; exact hl, ?_⟩, fun d hd => ?_, by rw [hle]; unfold maxLen at hm; omega⟩
  · by_cases h0 : len = 0
    · exact .inl (by subst h0; rfl)
    · refine .inr ?_
      obtain ⟨b, off, spot⟩ := a
      have hc0 := (hq 0 (by omega)).1
      have hspot : spot = none := by simpa [Addr.add] using World.cell?_spot hc0
      subst hspot
      refine ⟨b, off, rfl, World.block_lt_of_cell? w _ hc0, fun i hi => ?_⟩
      rw [hle] at hi
      rw [hget i hi]
      have hh := (hq i hi).1
      by_cases h0 : i = 0
      · subst h0; simpa [Addr.add] using hh
      · simpa [Addr.add, h0] using hh
  · obtain ⟨k, hk, rfl⟩ := List.mem_map.1 hd
    exact (hq k (by simpa using hk)).2
theorem read_three {H : Type} {enc : TypeId × Value → H} {w : World} {base : Nat} {spare : Nat → Bool} {held : Bool} {fuel : Nat} {cs : List Value} {x : DataW H × List MemPlace} {T E0 E1 E2 : TypeId} {g0 g1 g2 : Field}
    (hT : Try.prog.underlying T = some (.struct #[g0, g1, g2])) (hc : Try.prog.cellsOf T = 3) (o0 : g0.offset = 0) (o1 : g1.offset = 1) (o2 : g2.offset = 2)
    (h0 : Try.prog.underlying g0.type = some (.slice E0)) (h1 : Try.prog.underlying g1.type = some (.slice E1)) (h2 : Try.prog.underlying g2.type = some (.slice E2))
    (c0' : Try.prog.cellsOf g0.type = 1) (c1' : Try.prog.cellsOf g1.type = 1) (c2' : Try.prog.cellsOf g2.type = 1)
    (e0 : Try.prog.underlying E0 = some (.int .i64)) (e1 : Try.prog.underlying E1 = some (.int .i64)) (e2 : Try.prog.underlying E2 = some (.float .f64))
    (d0 : Try.prog.cellsOf E0 = 1) (d1 : Try.prog.cellsOf E1 = 1) (d2 : Try.prog.cellsOf E2 = 1)
    (h : DataW.trod enc Try.prog w base spare held fuel T cs = some x) :
    ∃ C I N f, cs = [C, I, N] ∧ Fact3 w C I N f ∧ FaWf f := by
  obtain ⟨xs, n, -, hx, hlen, hxl, hf⟩ := DataW.trod_struct hT h
  rw [hc] at hlen
  match cs, hlen with
  | [c0, c1, c2], _ =>
    match xs, hxl with
    | [y0, y1, y2], _ =>
      have q0 := hf 0 g0 rfl
      have q1 := hf 1 g1 rfl
      have q2 := hf 2 g2 rfl
      rw [o0, c0'] at q0
      rw [o1, c1'] at q1
      rw [o2, c2'] at q2
      obtain ⟨l0, k0, w0, m0⟩ := longs_of h0 e0 d0 q0
      obtain ⟨l1, k1, w1, m1⟩ := longs_of h1 e1 d1 q1
      obtain ⟨l2, k2, w2, m2⟩ := fls_of h2 e2 d2 q2
      exact ⟨c0, c1, c2, ⟨l0, l1, l2⟩, rfl, ⟨k0, k1, k2⟩, ⟨w0, w1, w2, m0, m1, m2⟩⟩
theorem facts_gen {H : Type} {enc : TypeId × Value → H} {w : World} {base : Nat} {spare : Nat → Bool} {held : Bool} {v : Value} {d : DataW H} {p : List MemPlace} {T E : TypeId} (hT : Try.prog.underlying T = some (.slice E)) (hc3 : Try.prog.cellsOf E = 3)
    (hr : ∀ {fuel : Nat} {cs : List Value} {x : DataW H × List MemPlace}, DataW.trod enc Try.prog w base spare held fuel E cs = some x → ∃ C I N f, cs = [C, I, N] ∧ Fact3 w C I N f ∧ FaWf f)
    (h : DataW.Trod enc Try.prog w base spare held T v d p) (hs : ∃ a l c, v = .slice a l c) : ∃ l, Facts w v l ∧ ∀ f ∈ l, FaWf f := by
  obtain ⟨fuel, h⟩ := h
  obtain ⟨a0, l0, c0, rfl⟩ := hs
  rcases open_slice hT h with ⟨hv, -⟩ | ⟨a, len, cap, m, nn, Dx, Pl, hv, -, hl, hcm, hmm, -, hi⟩
  · simp [Value.cells] at hv
    obtain ⟨rfl, rfl, rfl⟩ := hv
    exact ⟨[], ⟨none, 0, rfl, by simp, by simp, .inl rfl⟩, fun _ h => by cases h⟩
  · simp [Value.cells] at hv
    obtain ⟨rfl, rfl, rfl⟩ := hv
    have hlm : l0 ≤ m := by rw [hmm]; split <;> omega
    have hq : ∀ k, ∃ f : Fa, k < l0 → ∃ C I N, (∀ j, j < 3 → w.cell? ((a.add (k * 3)).add j) = [C, I, N][j]?) ∧ Fact3 w C I N f ∧ FaWf f := by
      intro k
      by_cases hk : k < l0
      · obtain ⟨cs', hc, ht⟩ := hi k (by omega)
        obtain ⟨C, I, N, f, rfl, h3, hwf⟩ := hr ht
        rw [hc3] at hc
        obtain ⟨-, -, hat⟩ := World.cells?_some hc
        exact ⟨f, fun _ => ⟨C, I, N, hat, h3, hwf⟩⟩
      · exact ⟨⟨[], [], []⟩, fun h => absurd h hk⟩
    obtain ⟨q, hq⟩ := Classical.axiomOfChoice hq
    have hle : ((List.range l0).map q).length = l0 := by simp
    have hget : ∀ k (h : k < ((List.range l0).map q).length), ((List.range l0).map q)[k] = q k := fun k hk => by simp
    refine ⟨(List.range l0).map q, ⟨some a, c0, by rw [hle], by rw [hle]; exact hl, by rw [hle]; unfold maxLen at hcm; omega, ?_⟩, fun d hd => ?_⟩
    · by_cases h0 : l0 = 0
      · exact .inl (by subst h0; rfl)
      · refine .inr ?_
        obtain ⟨b, off, spot⟩ := a
        obtain ⟨C, I, N, hc, -⟩ := hq 0 (by omega)
        have hc := hc 0 (by omega)
        have hspot : spot = none := by simpa [Addr.add] using World.cell?_spot hc
        subst hspot
        refine ⟨b, off, rfl, World.block_lt_of_cell? w _ hc, fun k hk => ?_⟩
        obtain ⟨C, I, N, hh, h3, -⟩ := hq k (by omega)
        have ha : (⟨b, off, none⟩ : Addr).add (k * 3) = ⟨b, off + k * 3, none⟩ := by
          by_cases k0 : k = 0
          · subst k0; simp [Addr.add]
          · have k6 : ¬ k * 3 = 0 := by omega
            simp only [Addr.add, if_neg k6]
        rw [ha] at hh
        have h0 := hh 0 (by omega)
        have h1 := hh 1 (by omega)
        have h2 := hh 2 (by omega)
        simp only [Addr.add, if_true, Nat.one_ne_zero, if_false] at h0 h1 h2
        rw [hget k hk]
        exact ⟨C, I, N, ⟨h0, h1, by simpa using h2⟩, h3⟩
    · obtain ⟨k, hk, rfl⟩ := List.mem_map.1 hd
      obtain ⟨C, I, N, -, -, hwf⟩ := hq k (by simpa using hk)
      exact hwf
end Go.Proofs.Ytdnbjaeeebodkaa
