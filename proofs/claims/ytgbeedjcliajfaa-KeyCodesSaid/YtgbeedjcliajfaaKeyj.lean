/- Layer 13: what comes in beside a schema: codes, two rows of codes, three sets, a way. -/
import Derived.Test.YtgbeedjcliajfaaKeyi
namespace Go.Proofs.Ytgbeedjcliajfaa
set_option maxRecDepth 100000
open Go.RowKit Go.ChangeShapes Go.WideShapes Go.Deep
set_option linter.unusedVariables false
theorem ints_at {H : Type} {enc : TypeId × Value → H} {w : World} {base : Nat} {spare : Nat → Bool} {held : Bool} {fuel : Nat} {v : Value} {x : DataW H × List MemPlace}
    (h : DataW.trod enc Try.prog w base spare held fuel 28 [v] = some x) : ∃ vs, Ints .i64 w v vs := by
  rcases open_ints Try.underlying28 Try.underlying3 (by kernel_rfl) h with ⟨hcs, _⟩ | ⟨x, l, c, zs, hcs, _, hl, hm, hz, _, hcell, hwz⟩
  · obtain rfl : v = .slice none 0 0 := by simpa using hcs
    exact ⟨[], ⟨none, 0, rfl, by simp, .inl rfl⟩⟩
  · obtain rfl : v = .slice (some x) l c := by simpa using hcs
    have hlz : l ≤ zs.length := by rw [hz]; split <;> omega
    have ht : (zs.take l).length = l := by rw [List.length_take]; omega
    refine ⟨zs.take l, ⟨some x, c, by rw [ht], by omega, ?_⟩⟩
    by_cases h0 : l = 0
    · subst h0; exact .inl (by simp)
    · refine .inr ?_
      obtain ⟨b, off, spot⟩ := x
      have hc := hcell 0 (by omega)
      have hspot : spot = none := by simpa [Addr.add] using World.cell?_spot hc
      subst hspot
      refine ⟨b, off, rfl, World.block_lt_of_cell? w _ hc, fun i hi => ?_⟩
      rw [ht] at hi
      have e : (zs.take l).getD i 0 = zs.getD i 0 := by simp [List.getD, hi]
      rw [e]
      have hh := hcell i (by omega)
      by_cases h0 : i = 0
      · subst h0; simpa [Addr.add] using hh
      · simpa [Addr.add, h0] using hh
theorem codes_of {H : Type} {enc : TypeId × Value → H} {w : World} {base : Nat} {spare : Nat → Bool} {held : Bool} {v : Value} {d : DataW H} {p : List MemPlace}
    (h : DataW.Trod enc Try.prog w base spare held 28 v d p) (hs : ∃ a l c, v = .slice a l c) : ∃ l, Ints .i64 w v l := by
  obtain ⟨a, l, c, rfl⟩ := hs
  obtain ⟨fuel, h⟩ := h
  exact ints_at h
theorem arr_cells {w : World} {r : Reach} {b0 : Nat} {t e : TypeId} {n m : Nat} {v : Value} (hu : Try.prog.underlying t = some (.array n e)) (hm : Try.prog.cellsOf t = m) (hv : Value.okWide Try.prog w r b0 t v) : ∃ cs, v = .agg cs ∧ cs.size = m := by
  unfold Value.okWide at hv
  rw [hu] at hv
  obtain ⟨cs, rfl, hsz, -⟩ := hv
  exact ⟨cs, rfl, hsz.trans hm⟩
theorem set_cells : Try.prog.cellsOf 53 = 3 ∧ Try.prog.cellsOf 27 = 1 ∧ Try.prog.cellsOf 55 = 2 ∧ Try.prog.cellsOf 28 = 1 := by
  refine ⟨?_, ?_, ?_, ?_⟩ <;> kernel_rfl
theorem sets3_of {H : Type} {enc : TypeId × Value → H} {w : World} {base : Nat} {spare : Nat → Bool} {held : Bool} {r : Reach} {b0 : Nat} {v : Value} {d : DataW H} {p : List MemPlace}
    (hv : Value.okWide Try.prog w r b0 53 v) (h : DataW.Trod enc Try.prog w base spare held 53 v d p) :
    ∃ x y z : Int, v = .agg #[.int .u32 x, .int .u32 y, .int .u32 z] ∧ (0 ≤ x ∧ x ≤ 4294967295) ∧ (0 ≤ y ∧ y ≤ 4294967295) ∧ (0 ≤ z ∧ z ≤ 4294967295) := by
  obtain ⟨cs, rfl, hsz⟩ := arr_cells Try.underlying53 set_cells.1 hv
  obtain ⟨fuel, h⟩ := h
  obtain ⟨xs, m, -, hx, hlen, hxl, hf⟩ := DataW.trod_array Try.underlying53 h
  obtain ⟨l⟩ := cs
  rw [set_cells.2.1] at hf
  match l, hsz with
  | [c0, c1, c2], _ =>
    match xs, hxl with
    | [y0, y1, y2], _ =>
      have h0 := hf 0 (by decide)
      have h1 := hf 1 (by decide)
      have h2 := hf 2 (by decide)
      obtain ⟨m0, e0, -, w0⟩ := DataW.trod_int Try.underlying27 h0
      obtain ⟨m1, e1, -, w1⟩ := DataW.trod_int Try.underlying27 h1
      obtain ⟨m2, e2, -, w2⟩ := DataW.trod_int Try.underlying27 h2
      cases e0; cases e1; cases e2
      simp [Lit.wf, IntKind.min, IntKind.max, IntKind.signed, IntKind.bits] at w0 w1 w2
      exact ⟨m0, m1, m2, rfl, by omega, by omega, by omega⟩
theorem rows2_of {H : Type} {enc : TypeId × Value → H} {w : World} {base : Nat} {spare : Nat → Bool} {held : Bool} {r : Reach} {b0 : Nat} {v : Value} {d : DataW H} {p : List MemPlace}
    (hv : Value.okWide Try.prog w r b0 55 v) (h : DataW.Trod enc Try.prog w base spare held 55 v d p) :
    ∃ u0 u1 l0 l1, v = .agg #[u0, u1] ∧ Ints .i64 w u0 l0 ∧ Ints .i64 w u1 l1 := by
  obtain ⟨cs, rfl, hsz⟩ := arr_cells Try.underlying55 set_cells.2.2.1 hv
  obtain ⟨fuel, h⟩ := h
  obtain ⟨xs, m, -, hx, hlen, hxl, hf⟩ := DataW.trod_array Try.underlying55 h
  obtain ⟨l⟩ := cs
  rw [set_cells.2.2.2] at hf
  match l, hsz with
  | [c0, c1], _ =>
    match xs, hxl with
    | [y0, y1], _ =>
      have h0 := hf 0 (by decide)
      have h1 := hf 1 (by decide)
      obtain ⟨l0, k0⟩ := ints_at h0
      obtain ⟨l1, k1⟩ := ints_at h1
      exact ⟨c0, c1, l0, l1, rfl, k0, k1⟩
theorem way_of {H : Type} {enc : TypeId × Value → H} {w : World} {base : Nat} {spare : Nat → Bool} {held : Bool} {r : Reach} {b0 : Nat} {v : Value} {d : DataW H} {p : List MemPlace}
    (hv : Value.okWide Try.prog w r b0 47 v) (h : DataW.Trod enc Try.prog w base spare held 47 v d p) :
    ∃ a b q n : Int, v = .agg #[.int .u32 a, .int .u32 b, .int .u64 q, .int .i64 n] ∧ (0 ≤ a ∧ a ≤ 4294967295) ∧ (0 ≤ b ∧ b ≤ 4294967295) ∧ (0 ≤ q ∧ q ≤ 18446744073709551615) ∧ (-9223372036854775808 ≤ n ∧ n ≤ 9223372036854775807) := by
  obtain ⟨u0, u1, u2, u3, y0, y1, y2, y3, m, rfl, -, -, t0, t1, t2, t3⟩ := Go.Joins.open_agg4 Try.underlying47 (by kernel_rfl) (by kernel_rfl) hv h
  obtain ⟨a, e0, -, w0⟩ := DataW.trod_int Try.underlying27 t0
  obtain ⟨b, e1, -, w1⟩ := DataW.trod_int Try.underlying27 t1
  obtain ⟨q, e2, -, w2⟩ := DataW.trod_int Try.underlying31 t2
  obtain ⟨n, e3, -, w3⟩ := DataW.trod_int Try.underlying3 t3
  cases e0; cases e1; cases e2; cases e3
  simp [Lit.wf, IntKind.min, IntKind.max, IntKind.signed, IntKind.bits] at w0 w1 w2 w3
  exact ⟨a, b, q, n, rfl, by omega, by omega, by omega, by omega⟩
end Go.Proofs.Ytgbeedjcliajfaa
