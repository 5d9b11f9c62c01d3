/- Questions as they come in: by value, and in a slice. -/
import Derived.Test.YtmganccajcpcbaaBufp
import Derived.Deep.Slices
import Derived.Deep.Fields
import Derived.ChangeSame
import Derived.ChangeSlices
import Derived.Lib.SmallJoins
namespace Go.Proofs.Ytmganccajcpcbaa
set_option maxRecDepth 100000
open Go.RowKit Go.ChangeShapes Go.WideShapes Go.Deep
set_option linter.unusedVariables false
/-- A slice that came in: it reads as these numbers, each of its kind. -/
def Given (k : IntKind) (w : World) (v : Value) (zs : List Int) : Prop := Ints k w v zs ∧ ∀ n ∈ zs, (Lit.int k n).wf = true
theorem given_nil {k : IntKind} {w : World} : Given k w (.slice none 0 0) [] := ⟨⟨none, 0, rfl, by simp, .inl rfl⟩, fun _ h => by cases h⟩
theorem given_row {k : IntKind} {w : World} {x : Addr} {l c : Nat} {zs : List Int} (hl : l ≤ c) (hz : zs.length = c) (hcell : ∀ i, i < zs.length → w.cell? (x.add i) = some (.int k (zs.getD i 0))) (hw : ∀ n ∈ zs, (Lit.int k n).wf = true) :
    Given k w (.slice (some x) l c) (zs.take l) := by
  have ht : (zs.take l).length = l := by rw [List.length_take]; omega
  refine ⟨⟨some x, c, by rw [ht], by omega, ?_⟩, fun n hn => hw n (List.mem_of_mem_take hn)⟩
  by_cases h0 : l = 0
  · subst h0; exact .inl (by simp)
  · refine .inr ?_
    obtain ⟨b, off, spot⟩ := x
    have hc := hcell 0 (by omega)
    have hspot : spot = none := by simpa [Addr.add] using World.cell?_spot hc
    subst hspot
    refine ⟨b, off, rfl, World.block_lt_of_cell? w _ hc, fun i hi => ?_⟩
    rw [ht] at hi
    rw [getD_take hi]
    have hh := hcell i (by omega)
    by_cases h0 : i = 0
    · subst h0; simpa [Addr.add] using hh
    · simpa [Addr.add, h0] using hh
theorem Given.byt {w : World} {v : Value} {zs : List Int} (h : Given .u8 w v zs) : Bt zs := fun x hx => by
  have := h.2 x hx; simp [Lit.wf, IntKind.min, IntKind.max, IntKind.signed, IntKind.bits] at this; omega
theorem len_max {k : IntKind} {w : World} {a : Option Addr} {len cap : Nat} {zs : List Int} (h : Given k w (.slice a len cap) zs) : zs.length = len := by
  obtain ⟨⟨_, _, e, _⟩, _⟩ := h; simp at e; exact e.2.1.symm
theorem trod_float {H : Type} {enc : TypeId × Value → H} {P : Program} {w : World} {base : Nat} {spare : Nat → Bool} {held : Bool} {fuel : Nat} {t : TypeId} {cs : List Value} {x : DataW H × List MemPlace} {k : FloatKind} (ht : P.underlying t = some (.float k)) (h : DataW.trod enc P w base spare held fuel t cs = some x) : ∃ n, cs = [.float k n] ∧ (Lit.float k n).wf = true := by
  cases fuel with
  | zero => simp [DataW.trod] at h
  | succ n =>
    unfold DataW.trod at h
    rw [ht] at h
    split at h <;> simp_all
/-- What a question's numbers are. -/
def AskWf (d u i : Int) (f : Nat) (m : Int) : Prop := (Lit.int .i64 d).wf = true ∧ (Lit.int .u64 u).wf = true ∧ (Lit.int .i64 i).wf = true ∧ (Lit.float .f64 f).wf = true ∧ (Lit.int .i64 m).wf = true
theorem one3 : Try.prog.cellsOf 3 = 1 ∧ Try.prog.cellsOf 28 = 1 ∧ Try.prog.cellsOf 2 = 1 ∧ Try.prog.cellsOf 32 = 1 ∧ Try.prog.cellsOf 9 = 1 ∧ Try.prog.cellsOf 34 = 6 := by
  refine ⟨?_, ?_, ?_, ?_, ?_, ?_⟩ <;> kernel_rfl
/-- The reading of a question. -/
theorem read_ask {H : Type} {enc : TypeId × Value → H} {w : World} {base : Nat} {spare : Nat → Bool} {held : Bool} {fuel : Nat} {cs : List Value} {x : DataW H × List MemPlace}
    (h : DataW.trod enc Try.prog w base spare held fuel 34 cs = some x) :
    ∃ (d u i : Int) (f : Nat) (t : ByteArray) (m : Int), cs = [.int .i64 d, .int .u64 u, .int .i64 i, .float .f64 f, .string t, .int .i64 m] ∧ AskWf d u i f m ∧
      ∃ y0 y1 y2 y3 y5, x.1 = .agg [y0, y1, y2, y3, .lit (.string t.data.toList), y5] := by
  obtain ⟨xs, n, -, hx, hlen, hxl, hf⟩ := DataW.trod_struct Try.underlying34 h
  obtain ⟨o1, o2, o3, o4, o5, o6⟩ := one3
  rw [o6] at hlen
  match cs, hlen with
  | [c0, c1, c2, c3, c4, c5], _ =>
    match xs, hxl with
    | [y0, y1, y2, y3, y4, y5], _ =>
      have h0 := hf 0 _ rfl
      have h1 := hf 1 _ rfl
      have h2 := hf 2 _ rfl
      have h3 := hf 3 _ rfl
      have h4 := hf 4 _ rfl
      have h5 := hf 5 _ rfl
      simp only [List.getElem?_cons_succ] at h0 h1 h2 h3 h4 h5
      obtain ⟨d, e0, -, w0⟩ := DataW.trod_int Try.underlying3 h0
      obtain ⟨u, e1, -, w1⟩ := DataW.trod_int Try.underlying28 h1
      obtain ⟨i, e2, -, w2⟩ := DataW.trod_int Try.underlying2 h2
      obtain ⟨f, e3, w3⟩ := trod_float Try.underlying32 h3
      obtain ⟨t, e4, z4, -⟩ := DataW.trod_string Try.underlying9 h4
      obtain ⟨m, e5, -, w5⟩ := DataW.trod_int Try.underlying3 h5
      cases e0; cases e1; cases e2; cases e3; cases e4; cases e5
      refine ⟨d, u, i, f, t, m, rfl, ⟨w0, w1, w2, w3, w5⟩, y0.1, y1.1, y2.1, y3.1, y5.1, ?_⟩
      rw [hx, z4]
      rfl
/-- A slice of questions as it comes in. -/
theorem asks_of {H : Type} {enc : TypeId × Value → H} {w : World} {base : Nat} {spare : Nat → Bool} {held : Bool} {fuel : Nat} {cs : List Value} {x : DataW H × List MemPlace}
    (h : DataW.trod enc Try.prog w base spare held fuel 23 cs = some x) :
    ∃ v n D U I F T M, cs = [v] ∧ Asks w v n D U I F T M := by
  rcases open_slice Try.underlying23 h with ⟨rfl, -⟩ | ⟨a, len, cap, m, nn, Dx, Pl, rfl, -, hl, -, hmm, -, hi⟩
  · exact ⟨_, 0, fun _ => 0, fun _ => 0, fun _ => 0, fun _ => 0, fun _ => ⟨#[]⟩, fun _ => 0, rfl, ⟨none, 0, rfl, Nat.le_refl _, .inl rfl⟩, fun k hk => absurd hk (Nat.not_lt_zero k)⟩
  · have hlm : len ≤ m := by rw [hmm]; split <;> omega
    have hq : ∀ k, ∃ q : Int × Int × Int × Nat × ByteArray × Int, k < len → (∀ j, j < 6 → w.cell? ((a.add (k * 6)).add j) = [Value.int .i64 q.1, .int .u64 q.2.1, .int .i64 q.2.2.1, .float .f64 q.2.2.2.1, .string q.2.2.2.2.1, .int .i64 q.2.2.2.2.2][j]?) ∧ AskWf q.1 q.2.1 q.2.2.1 q.2.2.2.1 q.2.2.2.2.2 := by
      intro k
      by_cases hk : k < len
      · obtain ⟨cs', hc, ht⟩ := hi k (by omega)
        obtain ⟨d, u, i, f, t, mm, rfl, hwf, -⟩ := read_ask ht
        rw [one3.2.2.2.2.2] at hc
        obtain ⟨-, -, hat⟩ := World.cells?_some hc
        exact ⟨(d, u, i, f, t, mm), fun _ => ⟨hat, hwf⟩⟩
      · exact ⟨(0, 0, 0, 0, ⟨#[]⟩, 0), fun h => absurd h hk⟩
    obtain ⟨q, hq⟩ := Classical.axiomOfChoice hq
    refine ⟨_, len, fun k => (q k).1, fun k => (q k).2.1, fun k => (q k).2.2.1, fun k => (q k).2.2.2.1, fun k => (q k).2.2.2.2.1, fun k => (q k).2.2.2.2.2, rfl, ⟨some a, cap, rfl, hl, ?_⟩, fun k hk => ?_⟩
    · by_cases h0 : len = 0
      · exact .inl h0
      · refine .inr ?_
        obtain ⟨b, off, spot⟩ := a
        have hc := (hq 0 (by omega)).1 0 (by omega)
        have hspot : spot = none := by simpa [Addr.add] using World.cell?_spot hc
        subst hspot
        refine ⟨b, off, rfl, World.block_lt_of_cell? w _ hc, fun k hk => ?_⟩
        have hh := (hq k hk).1
        have ha : (⟨b, off, none⟩ : Addr).add (k * 6) = ⟨b, off + k * 6, none⟩ := by
          by_cases k0 : k = 0
          · subst k0; simp [Addr.add]
          · have k6 : ¬ k * 6 = 0 := by omega
            simp only [Addr.add, if_neg k6]
        rw [ha] at hh
        have h0 := hh 0 (by omega)
        have h1 := hh 1 (by omega)
        have h2 := hh 2 (by omega)
        have h3 := hh 3 (by omega)
        have h4 := hh 4 (by omega)
        have h5 := hh 5 (by omega)
        simp only [Addr.add, if_true, Nat.one_ne_zero, if_false, show (2 : Nat) = 0 ↔ False by decide, show (3 : Nat) = 0 ↔ False by decide, show (4 : Nat) = 0 ↔ False by decide, show (5 : Nat) = 0 ↔ False by decide] at h0 h1 h2 h3 h4 h5
        exact ⟨h0, h1, h2, h3, h4, h5⟩
    · obtain ⟨w0, w1, w2, w3, w5⟩ := (hq k hk).2
      refine ⟨?_, ?_, ?_, ?_, ?_⟩
      · simp [Lit.wf, IntKind.min, IntKind.max, IntKind.signed, IntKind.bits] at w1
        have e : (((q k).2.1.toNat : Nat) : Int) = (q k).2.1 := by omega
        exact ⟨(q k).2.1.toNat, e.symm, by omega⟩
      · simp [Lit.wf, IntKind.min, IntKind.max, IntKind.signed, IntKind.bits] at w2; exact (by omega : -9223372036854775808 ≤ (q k).2.2.1 ∧ (q k).2.2.1 ≤ 9223372036854775807)
      · simpa [Lit.wf, W64] using w3
      · simp [Lit.wf, IntKind.min, IntKind.max, IntKind.signed, IntKind.bits] at w5; exact (by omega : (q k).2.2.2.2.2 ≤ 9223372036854775807)
      · simp [Lit.wf, IntKind.min, IntKind.max, IntKind.signed, IntKind.bits] at w0; exact (by omega : -9223372036854775808 ≤ (q k).1 ∧ (q k).1 ≤ 9223372036854775807)
end Go.Proofs.Ytmganccajcpcbaa
