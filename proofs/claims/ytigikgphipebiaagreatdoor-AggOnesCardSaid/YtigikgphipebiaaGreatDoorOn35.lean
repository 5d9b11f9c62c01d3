/- Contracts that the law leans on, pruned and merged: Schm Facc Keya. -/
import Derived.Deep.Slices
import Derived.Deep.Fields
import Derived.ChangeSame
import Derived.ChangeSlices
import Derived.Lib.SmallJoins
import Derived.SliceStrings
import Derived.Test.YtigikgphipebiaaGreatDoorOn33
import Derived.Test.YtigikgphipebiaaGreatDoorOn34
/- Layer 11: a schema as it comes in. -/
namespace Go.Proofs.YtigikgphipebiaaGreatDoor
set_option maxRecDepth 100000
open Go.RowKit
set_option linter.unusedVariables false
set_option maxRecDepth 100000
open Go.RowKit Go.ChangeShapes Go.WideShapes Go.Deep
set_option linter.unusedVariables false
theorem dim_cells : Tryz.prog.cellsOf 73 = 2 ∧ Tryz.prog.cellsOf 9 = 1 ∧ Tryz.prog.cellsOf 3 = 1 := by
  refine ⟨?_, ?_, ?_⟩ <;> kernel_rfl
theorem read_dim {H : Type} {enc : TypeId × Value → H} {w : World} {base : Nat} {spare : Nat → Bool} {held : Bool} {fuel : Nat} {cs : List Value} {x : DataW H × List MemPlace}
    (h : DataW.trod enc Tryz.prog w base spare held fuel 73 cs = some x) :
    ∃ (s : ByteArray) (n : Int), cs = [.string s, .int .i64 n] ∧ s.size ≤ maxLen ∧ -9223372036854775808 ≤ n ∧ n ≤ 9223372036854775807 := by
  obtain ⟨xs, n, -, hx, hlen, hxl, hf⟩ := DataW.trod_struct Tryz.underlying73 h
  rw [dim_cells.1] at hlen
  match cs, hlen with
  | [c0, c1], _ =>
    match xs, hxl with
    | [y0, y1], _ =>
      have h0 := hf 0 _ rfl
      have h1 := hf 1 _ rfl
      simp only [List.getElem?_cons_succ] at h0 h1
      obtain ⟨s, e0, -, w0⟩ := DataW.trod_string Tryz.underlying9 h0
      obtain ⟨m, e1, -, w1⟩ := DataW.trod_int Tryz.underlying3 h1
      cases e0; cases e1
      simp [Lit.wf, IntKind.min, IntKind.max, IntKind.signed, IntKind.bits] at w1
      exact ⟨s, m, rfl, w0, by omega, by omega⟩
theorem dims_of {H : Type} {enc : TypeId × Value → H} {w : World} {base : Nat} {spare : Nat → Bool} {held : Bool} {fuel : Nat} {v : Value} {x : DataW H × List MemPlace}
    (h : DataW.trod enc Tryz.prog w base spare held fuel 22 [v] = some x) :
    ∃ ds, Dims w v ds ∧ ∀ d ∈ ds, d.1.size ≤ maxLen ∧ -9223372036854775808 ≤ d.2 ∧ d.2 ≤ 9223372036854775807 := by
  rcases open_slice Tryz.underlying22 h with ⟨hv, -⟩ | ⟨a, len, cap, m, nn, Dx, Pl, hv, -, hl, hcm, hmm, -, hi⟩
  · obtain rfl : v = .slice none 0 0 := by simpa using hv
    exact ⟨[], ⟨none, 0, rfl, by simp, by simp, .inl rfl⟩, fun _ h => by cases h⟩
  · obtain rfl : v = .slice (some a) len cap := by simpa using hv
    have hlm : len ≤ m := by rw [hmm]; split <;> omega
    have hq : ∀ k, ∃ q : ByteArray × Int, k < len → (∀ j, j < 2 → w.cell? ((a.add (k * 2)).add j) = [Value.string q.1, .int .i64 q.2][j]?) ∧ q.1.size ≤ maxLen ∧ -9223372036854775808 ≤ q.2 ∧ q.2 ≤ 9223372036854775807 := by
      intro k
      by_cases hk : k < len
      · obtain ⟨cs', hc, ht⟩ := hi k (by omega)
        obtain ⟨s, n, rfl, hwf⟩ := read_dim ht
        rw [dim_cells.1] at hc
        obtain ⟨-, -, hat⟩ := World.cells?_some hc
        exact ⟨(s, n), fun _ => ⟨hat, hwf⟩⟩
      · exact ⟨(ByteArray.empty, 0), fun h => absurd h hk⟩
    obtain ⟨q, hq⟩ := Classical.axiomOfChoice hq
    have hle : ((List.range len).map q).length = len := by simp
    have hget : ∀ k, k < len → ((List.range len).map q).getD k (ByteArray.empty, 0) = q k := fun k hk => by simp [List.getD, hk]
    refine ⟨(List.range len).map q, ⟨some a, cap, by rw [hle], by rw [hle]; exact hl, by rw [hle]; unfold maxLen at hcm; omega, ?_⟩, fun d hd => ?_⟩
    · by_cases h0 : len = 0
      · exact .inl (by subst h0; rfl)
      · refine .inr ?_
        obtain ⟨b, off, spot⟩ := a
        have hc := (hq 0 (by omega)).1 0 (by omega)
        have hspot : spot = none := by simpa [Addr.add] using World.cell?_spot hc
        subst hspot
        refine ⟨b, off, rfl, World.block_lt_of_cell? w _ hc, fun k hk => ?_⟩
        rw [hle] at hk
        have hh := (hq k hk).1
        have ha : (⟨b, off, none⟩ : Addr).add (k * 2) = ⟨b, off + k * 2, none⟩ := by
          by_cases k0 : k = 0
          · subst k0; simp [Addr.add]
          · have k6 : ¬ k * 2 = 0 := by omega
            simp only [Addr.add, if_neg k6]
        rw [ha] at hh
        have h0 := hh 0 (by omega)
        have h1 := hh 1 (by omega)
        simp only [Addr.add, if_true, Nat.one_ne_zero, if_false] at h0 h1
        unfold dn dz
        rw [hget k hk]
        exact ⟨h0, h1⟩
    · obtain ⟨k, hk, rfl⟩ := List.mem_map.1 hd
      exact (hq k (by simpa using hk)).2
theorem sets_of {H : Type} {enc : TypeId × Value → H} {w : World} {base : Nat} {spare : Nat → Bool} {held : Bool} {fuel : Nat} {v : Value} {x : DataW H × List MemPlace}
    (h : DataW.trod enc Tryz.prog w base spare held fuel 24 [v] = some x) :
    ∃ vs, Ints .u32 w v vs ∧ ∀ d ∈ vs, 0 ≤ d ∧ d ≤ 4294967295 := by
  rcases open_ints Tryz.underlying24 Tryz.underlying27 (by kernel_rfl) h with ⟨hcs, _⟩ | ⟨x, l, c, zs, hcs, _, hl, hm, hz, _, hcell, hwz⟩
  · obtain rfl : v = .slice none 0 0 := by simpa using hcs
    exact ⟨[], ⟨none, 0, rfl, by simp, .inl rfl⟩, fun _ h => by cases h⟩
  · obtain rfl : v = .slice (some x) l c := by simpa using hcs
    have hlz : l ≤ zs.length := by rw [hz]; split <;> omega
    have ht : (zs.take l).length = l := by rw [List.length_take]; omega
    refine ⟨zs.take l, ⟨some x, c, by rw [ht], by omega, ?_⟩, fun n hn => ?_⟩
    · by_cases h0 : l = 0
      · subst h0; exact .inl (by simp)
      · refine .inr ?_
        obtain ⟨b, off, spot⟩ := x
        have hc := hcell 0 (by omega)
        have hspot : spot = none := by simpa [Addr.add] using World.cell?_spot hc
        subst hspot
        refine ⟨b, off, rfl, World.block_lt_of_cell? w _ hc, fun i hi => ?_⟩
        rw [ht] at hi
        have e : (zs.take l).getD i 0 = zs.getD i 0 := by simp [List.getD, hi]
        rw [e]
        have hh := hcell i (by omega)
        by_cases h0 : i = 0
        · subst h0; simpa [Addr.add] using hh
        · simpa [Addr.add, h0] using hh
    · have := hwz n (List.mem_of_mem_take hn)
      simp [Lit.wf, IntKind.min, IntKind.max, IntKind.signed, IntKind.bits] at this
      omega
theorem texts_of {H : Type} {enc : TypeId × Value → H} {w : World} {base : Nat} {spare : Nat → Bool} {held : Bool} {fuel : Nat} {v : Value} {x : DataW H × List MemPlace}
    (h : DataW.trod enc Tryz.prog w base spare held fuel 23 [v] = some x) :
    ∃ l, Strs w v l ∧ ∀ s ∈ l, s.size ≤ maxLen := by
  rcases open_strings Tryz.underlying23 Tryz.underlying9 (by kernel_rfl) h with ⟨hcs, _⟩ | ⟨x, l, c, zs, hcs, _, hl, hm, hz, _, hcell, hwz⟩
  · obtain rfl : v = .slice none 0 0 := by simpa using hcs
    exact ⟨[], givenS_nil⟩
  · obtain rfl : v = .slice (some x) l c := by simpa using hcs
    have hlz : l ≤ zs.length := by rw [hz]; split <;> omega
    have ht : (zs.take l).length = l := by rw [List.length_take]; omega
    refine ⟨zs.take l, ⟨some x, c, by rw [ht], by omega, by rw [ht]; unfold maxLen at hm; omega, ?_⟩, fun n hn => hwz n (List.mem_of_mem_take hn)⟩
    by_cases h0 : l = 0
    · subst h0; exact .inl (by simp)
    · refine .inr ?_
      obtain ⟨b, off, spot⟩ := x
      have hc := hcell 0 (by omega)
      have hspot : spot = none := by simpa [Addr.add] using World.cell?_spot hc
      subst hspot
      refine ⟨b, off, rfl, World.block_lt_of_cell? w _ hc, fun i hi => ?_⟩
      rw [ht] at hi
      have e : txt (zs.take l) i = zs.getD i ByteArray.empty := by simp [txt, List.getD, hi]
      rw [e]
      have hh := hcell i (by omega)
      by_cases h0 : i = 0
      · subst h0; simpa [Addr.add] using hh
      · simpa [Addr.add, h0] using hh
theorem schema_of {H : Type} {enc : TypeId × Value → H} {w : World} {base : Nat} {spare : Nat → Bool} {held : Bool} {r : Reach} {b0 : Nat} {v : Value} {d : DataW H} {p : List MemPlace}
    (hv : Value.okWide Tryz.prog w r b0 26 v) (h : DataW.Trod enc Tryz.prog w base spare held 26 v d p) :
    ∃ D I N V S, v = SchV D I N V ∧ Sch4 w D I N V S ∧ SWf S := by
  obtain ⟨u0, u1, u2, u3, y0, y1, y2, y3, m, rfl, -, -, t0, t1, t2, t3⟩ := Go.Joins.open_agg4 Tryz.underlying26 (by kernel_rfl) (by kernel_rfl) hv h
  obtain ⟨ds, k0, w0⟩ := dims_of t0
  obtain ⟨is, k1, w1⟩ := texts_of t1
  obtain ⟨ns, k2, w2⟩ := texts_of t2
  obtain ⟨vs, k3, w3⟩ := sets_of t3
  exact ⟨u0, u1, u2, u3, ⟨ds, is, ns, vs⟩, rfl, ⟨k0, k1, k2, k3⟩, ⟨w0, w1, w2, w3⟩⟩
end Go.Proofs.YtigikgphipebiaaGreatDoor
/- Layer 12: facts in memory, as they come in. -/
namespace Go.Proofs.YtigikgphipebiaaGreatDoor
set_option maxRecDepth 100000
open Go.RowKit
set_option linter.unusedVariables false
set_option maxRecDepth 100000
open Go.RowKit
set_option linter.unusedVariables false
/-- A fact: codes, whole numbers, floats (their words). -/
structure Fa where
  cs : List Int
  is : List Int
  ns : List Nat
/-- A fact of a schema's shape: the greatest codes, how many whole and real numbers. -/
structure FitFa (ms : List Int) (ni nn : Nat) (f : Fa) : Prop where
  lc : f.cs.length = ms.length
  li : f.is.length = ni
  ln : f.ns.length = nn
  c : ∀ k x, f.cs[k]? = some x → 0 ≤ x ∧ x ≤ ms.getD k 0 ∧ x ≤ 4096
  i : ∀ x ∈ f.is, -9223372036854775808 ≤ x ∧ x ≤ 9223372036854775807
  n : ∀ x ∈ f.ns, Keyed (keyI x)
set_option maxRecDepth 100000
open Go.RowKit
set_option linter.unusedVariables false
/-- The k-th code is one of its dimension. -/
def codAt (ds : List (ByteArray × Int)) (cs : List Int) (k : Nat) : Bool := decide (0 ≤ cs.getD k 0) && decide (cs.getD k 0 < dz ds k)
def codB (ds : List (ByteArray × Int)) (cs : List Int) : Bool := (List.range cs.length).all (codAt ds cs)
theorem cod_bad {ds : List (ByteArray × Int)} {cs : List Int} {k : Nat} (hk : k < cs.length) (h : codAt ds cs k = false) : codB ds cs = false := List.all_eq_false.2 ⟨k, by simpa using hk, by simp [h]⟩
theorem cod_good {ds : List (ByteArray × Int)} {cs : List Int} (h : ∀ j, j < cs.length → codAt ds cs j = true) : codB ds cs = true := List.all_eq_true.2 fun x hx => h x (by simpa using hx)
theorem cod_get {ds : List (ByteArray × Int)} {cs : List Int} (h : codB ds cs = true) {k : Nat} (hk : k < cs.length) : 0 ≤ cs.getD k 0 ∧ cs.getD k 0 < dz ds k := by
  have := List.all_eq_true.1 h k (by simpa using hk)
  simpa [codAt] using this
/-- The error of a fact, of a schema that is right. -/
def fitsL (S : Sc) (f : Fa) : Nat := if f.cs.length ≠ S.ds.length ∨ f.is.length ≠ S.is.length ∨ f.ns.length ≠ S.ns.length then 3 else if codB S.ds f.cs = true then 0 else 2
theorem fits_ok {S : Sc} {f : Fa} (h : fitsL S f = 0) : f.cs.length = S.ds.length ∧ f.is.length = S.is.length ∧ f.ns.length = S.ns.length ∧ codB S.ds f.cs = true := by
  unfold fitsL at h
  split at h
  · simp at h
  · rename_i q
    split at h
    · rename_i q2
      refine ⟨?_, ?_, ?_, q2⟩ <;> omega
    · simp at h
/-- The greatest codes. -/
def mostsS (S : Sc) : List Int := S.ds.map fun d => d.2 - 1
theorem mosts_get {S : Sc} {k : Nat} (hk : k < S.ds.length) : (mostsS S).getD k 0 = dz S.ds k - 1 := by
  rw [dz_get hk]
  simp [mostsS, List.getD, hk]
theorem mosts_len (S : Sc) : (mostsS S).length = S.ds.length := by simp [mostsS]
theorem check_siz {S : Sc} (h : checkL S = 0) {k : Nat} (hk : k < S.ds.length) : 1 ≤ dz S.ds k ∧ dz S.ds k ≤ 4096 := by
  have := siz_get (check_cnt' h).2 hk
  exact ⟨this.1, this.2.1⟩
theorem fit_of_fits {S : Sc} {f : Fa} (hc : checkL S = 0) (hi : ∀ x ∈ f.is, -9223372036854775808 ≤ x ∧ x ≤ 9223372036854775807) (hn : ∀ x ∈ f.ns, W64 x) (h : fitsL S f = 0) : FitFa (mostsS S) S.is.length S.ns.length f := by
  obtain ⟨h1, h2, h3, h4⟩ := fits_ok h
  refine ⟨by rw [mosts_len]; exact h1, h2, h3, fun k x hx => ?_, hi, fun x hx => keyed_key (hn x hx)⟩
  have hk := (List.getElem?_eq_some_iff.1 hx).1
  have hg := cod_get h4 hk
  have e : f.cs.getD k 0 = x := by simp [List.getD, hx]
  rw [e] at hg
  have hs := check_siz hc (k := k) (by omega)
  rw [mosts_get (by omega)]
  omega
set_option maxRecDepth 100000
open Go.RowKit Go.ChangeShapes Go.WideShapes Go.Deep
set_option linter.unusedVariables false
/-- A slice value reads as a list of floats. -/
def Fls (w : World) (v : Value) (xs : List Nat) : Prop :=
  ∃ a cap, v = .slice a xs.length cap ∧ xs.length ≤ cap ∧ (xs = [] ∨ ∃ b off, a = some ⟨b, off, none⟩ ∧ b < w.heap.size ∧ ∀ i, i < xs.length → w.cell? ⟨b, off + i, none⟩ = some (.float .f64 (xs.getD i 0)))
theorem Fls.below {w w' : World} {v : Value} {xs : List Nat} (h : Fls w v xs) (hb : Below w.heap.size w w') : Fls w' v xs := by
  obtain ⟨a, cap, rfl, h1, h3⟩ := h
  refine ⟨a, cap, rfl, h1, ?_⟩
  rcases h3 with h3 | ⟨b, off, rfl, hlt, hc⟩
  · exact .inl h3
  · exact .inr ⟨b, off, rfl, Nat.lt_of_lt_of_le hlt hb.size, fun i hi => (hb.cell (p := ⟨b, _, none⟩) hlt).trans (hc i hi)⟩
/-- The three slices of a fact. -/
structure Fact3 (w : World) (C I N : Value) (f : Fa) : Prop where
  c : Ints .i64 w C f.cs
  i : Ints .i64 w I f.is
  n : Fls w N f.ns
theorem Fact3.below {w w' : World} {C I N : Value} {f : Fa} (h : Fact3 w C I N f) (hb : Below w.heap.size w w') : Fact3 w' C I N f := ⟨h.c.below hb, h.i.below hb, h.n.below hb⟩
theorem Fact3.slices {w : World} {C I N : Value} {f : Fa} (h : Fact3 w C I N f) : (∃ a c, C = .slice a f.cs.length c) ∧ (∃ a c, I = .slice a f.is.length c) ∧ ∃ a c, N = .slice a f.ns.length c := by
  obtain ⟨⟨a, c, h1, -⟩, ⟨a2, c2, h2, -⟩, a3, c3, h3, -⟩ := h
  exact ⟨⟨a, c, h1⟩, ⟨a2, c2, h2⟩, a3, c3, h3⟩
/-- The numbers of a fact fit. -/
structure FaWf (f : Fa) : Prop where
  c : ∀ x ∈ f.cs, -9223372036854775808 ≤ x ∧ x ≤ 9223372036854775807
  i : ∀ x ∈ f.is, -9223372036854775808 ≤ x ∧ x ≤ 9223372036854775807
  n : ∀ x ∈ f.ns, W64 x
  l : f.cs.length ≤ 9223372036854775807 ∧ f.is.length ≤ 9223372036854775807 ∧ f.ns.length ≤ 9223372036854775807
abbrev FactV (C I N : Value) : Value := .agg #[C, I, N]
/-- A slice of facts: three cells each. -/
def Facts (w : World) (v : Value) (l : List Fa) : Prop :=
  ∃ a cap, v = .slice a l.length cap ∧ l.length ≤ cap ∧ l.length ≤ 9223372036854775807 ∧ (l = [] ∨ ∃ b off, a = some ⟨b, off, none⟩ ∧ b < w.heap.size ∧
    ∀ i (h : i < l.length), ∃ C I N, (w.cell? ⟨b, off + i * 3, none⟩ = some C ∧ w.cell? ⟨b, off + i * 3 + 1, none⟩ = some I ∧ w.cell? ⟨b, off + i * 3 + 2, none⟩ = some N) ∧ Fact3 w C I N l[i])
theorem Facts.below {w w' : World} {v : Value} {l : List Fa} (h : Facts w v l) (hb : Below w.heap.size w w') : Facts w' v l := by
  obtain ⟨a, cap, rfl, h1, h2, h3⟩ := h
  refine ⟨a, cap, rfl, h1, h2, ?_⟩
  rcases h3 with h3 | ⟨b, off, rfl, hlt, hc⟩
  · exact .inl h3
  · refine .inr ⟨b, off, rfl, Nat.lt_of_lt_of_le hlt hb.size, fun i hi => ?_⟩
    obtain ⟨C, I, N, ⟨q0, q1, q2⟩, q3⟩ := hc i hi
    exact ⟨C, I, N, ⟨(hb.cell (p := ⟨b, _, none⟩) hlt).trans q0, (hb.cell (p := ⟨b, _, none⟩) hlt).trans q1, (hb.cell (p := ⟨b, _, none⟩) hlt).trans q2⟩, q3.below hb⟩
theorem longs_of {H : Type} {enc : TypeId × Value → H} {w : World} {base : Nat} {spare : Nat → Bool} {held : Bool} {fuel : Nat} {v : Value} {x : DataW H × List MemPlace} {T E : TypeId} (hT : Tryz.prog.underlying T = some (.slice E)) (hE : Tryz.prog.underlying E = some (.int .i64)) (h1 : Tryz.prog.cellsOf E = 1)
    (h : DataW.trod enc Tryz.prog w base spare held fuel T [v] = some x) :
    ∃ vs, Ints .i64 w v vs ∧ (∀ d ∈ vs, -9223372036854775808 ≤ d ∧ d ≤ 9223372036854775807) ∧ vs.length ≤ 9223372036854775807 := by
  rcases open_ints hT hE h1 h with ⟨hcs, _⟩ | ⟨x, l, c, zs, hcs, _, hl, hm, hz, _, hcell, hwz⟩
  · obtain rfl : v = .slice none 0 0 := by simpa using hcs
    exact ⟨[], ⟨none, 0, rfl, by simp, .inl rfl⟩, (fun _ h => by cases h), by simp⟩
  · obtain rfl : v = .slice (some x) l c := by simpa using hcs
    have hlz : l ≤ zs.length := by rw [hz]; split <;> omega
    have ht : (zs.take l).length = l := by rw [List.length_take]; omega
    refine ⟨zs.take l, ⟨some x, c, by rw [ht], by omega, ?_⟩, fun n hn => ?_, by rw [ht]; unfold maxLen at hm; omega⟩
    · by_cases h0 : l = 0
      · subst h0; exact .inl (by simp)
      · refine .inr ?_
        obtain ⟨b, off, spot⟩ := x
        have hc := hcell 0 (by omega)
        have hspot : spot = none := by simpa [Addr.add] using World.cell?_spot hc
        subst hspot
        refine ⟨b, off, rfl, World.block_lt_of_cell? w _ hc, fun i hi => ?_⟩
        rw [ht] at hi
        have e : (zs.take l).getD i 0 = zs.getD i 0 := by simp [List.getD, hi]
        rw [e]
        have hh := hcell i (by omega)
        by_cases h0 : i = 0
        · subst h0; simpa [Addr.add] using hh
        · simpa [Addr.add, h0] using hh
    · have := hwz n (List.mem_of_mem_take hn)
      simp [Lit.wf, IntKind.min, IntKind.max, IntKind.signed, IntKind.bits] at this
      omega
theorem trod_f64 {H : Type} {enc : TypeId × Value → H} {P : Program} {w : World} {base : Nat} {spare : Nat → Bool} {held : Bool} {fuel : Nat} {t : TypeId} {cs : List Value} {x : DataW H × List MemPlace} {k : FloatKind} (ht : P.underlying t = some (.float k)) (h : DataW.trod enc P w base spare held fuel t cs = some x) : ∃ n, cs = [.float k n] ∧ (Lit.float k n).wf = true := by
  cases fuel with
  | zero => simp [DataW.trod] at h
  | succ n =>
    unfold DataW.trod at h
    rw [ht] at h
    split at h <;> simp_all
theorem fls_of {H : Type} {enc : TypeId × Value → H} {w : World} {base : Nat} {spare : Nat → Bool} {held : Bool} {fuel : Nat} {v : Value} {x : DataW H × List MemPlace} {T E : TypeId} (hT : Tryz.prog.underlying T = some (.slice E)) (hE : Tryz.prog.underlying E = some (.float .f64)) (hc1 : Tryz.prog.cellsOf E = 1)
    (h : DataW.trod enc Tryz.prog w base spare held fuel T [v] = some x) : ∃ xs, Fls w v xs ∧ (∀ x ∈ xs, W64 x) ∧ xs.length ≤ 9223372036854775807 := by
  rcases DataW.trod_slice hT h with ⟨hv, -⟩ | ⟨a, len, cap, elems, rest, n, _, hv, -, hb, hl, hm, hlen, hel, -, -⟩
  · obtain rfl : v = .slice none 0 0 := by simpa using hv
    exact ⟨[], ⟨none, 0, rfl, by simp, .inl rfl⟩, (fun _ h => by cases h), by simp⟩
  obtain rfl : v = .slice (some a) len cap := by simpa using hv
  have each : ∀ i, ∃ m, i < len → w.cell? (a.add i) = some (.float .f64 m) ∧ W64 m := by
    intro i
    by_cases hi : i < len
    · have h1 := hel i hi
      rw [List.getElem?_eq_getElem (by omega), hc1, Nat.mul_one, Option.bind_eq_some_iff] at h1
      obtain ⟨cs', hcs, hy'⟩ := h1
      obtain ⟨m, rfl, hw⟩ := trod_f64 hE hy'
      exact ⟨m, fun _ => ⟨cell_of_cells?_one hcs, by simpa [Lit.wf, W64] using hw⟩⟩
    · exact ⟨0, fun h => absurd h hi⟩
  obtain ⟨q, hq⟩ := Classical.axiomOfChoice each
  have hle : ((List.range len).map q).length = len := by simp
  have hget : ∀ k, k < len → ((List.range len).map q).getD k 0 = q k := fun k hk => by simp [List.getD, hk]
  refine ⟨(List.range len).map q, ⟨some a, cap, by rw [hle], by rw [hle]; exact hl, ?_⟩, fun d hd => ?_, by rw [hle]; unfold maxLen at hm; omega⟩
  · by_cases h0 : len = 0
    · exact .inl (by subst h0; rfl)
    · refine .inr ?_
      obtain ⟨b, off, spot⟩ := a
      have hc0 := (hq 0 (by omega)).1
      have hspot : spot = none := by simpa [Addr.add] using World.cell?_spot hc0
      subst hspot
      refine ⟨b, off, rfl, World.block_lt_of_cell? w _ hc0, fun i hi => ?_⟩
      rw [hle] at hi
      rw [hget i hi]
      have hh := (hq i hi).1
      by_cases h0 : i = 0
      · subst h0; simpa [Addr.add] using hh
      · simpa [Addr.add, h0] using hh
  · obtain ⟨k, hk, rfl⟩ := List.mem_map.1 hd
    exact (hq k (by simpa using hk)).2
theorem read_three {H : Type} {enc : TypeId × Value → H} {w : World} {base : Nat} {spare : Nat → Bool} {held : Bool} {fuel : Nat} {cs : List Value} {x : DataW H × List MemPlace} {T E0 E1 E2 : TypeId} {g0 g1 g2 : Field}
    (hT : Tryz.prog.underlying T = some (.struct #[g0, g1, g2])) (hc : Tryz.prog.cellsOf T = 3) (o0 : g0.offset = 0) (o1 : g1.offset = 1) (o2 : g2.offset = 2)
    (h0 : Tryz.prog.underlying g0.type = some (.slice E0)) (h1 : Tryz.prog.underlying g1.type = some (.slice E1)) (h2 : Tryz.prog.underlying g2.type = some (.slice E2))
    (c0' : Tryz.prog.cellsOf g0.type = 1) (c1' : Tryz.prog.cellsOf g1.type = 1) (c2' : Tryz.prog.cellsOf g2.type = 1)
    (e0 : Tryz.prog.underlying E0 = some (.int .i64)) (e1 : Tryz.prog.underlying E1 = some (.int .i64)) (e2 : Tryz.prog.underlying E2 = some (.float .f64))
    (d0 : Tryz.prog.cellsOf E0 = 1) (d1 : Tryz.prog.cellsOf E1 = 1) (d2 : Tryz.prog.cellsOf E2 = 1)
    (h : DataW.trod enc Tryz.prog w base spare held fuel T cs = some x) :
    ∃ C I N f, cs = [C, I, N] ∧ Fact3 w C I N f ∧ FaWf f := by
  obtain ⟨xs, n, -, hx, hlen, hxl, hf⟩ := DataW.trod_struct hT h
  rw [hc] at hlen
  match cs, hlen with
  | [c0, c1, c2], _ =>
    match xs, hxl with
    | [y0, y1, y2], _ =>
      have q0 := hf 0 g0 rfl
      have q1 := hf 1 g1 rfl
      have q2 := hf 2 g2 rfl
      rw [o0, c0'] at q0
      rw [o1, c1'] at q1
      rw [o2, c2'] at q2
      obtain ⟨l0, k0, w0, m0⟩ := longs_of h0 e0 d0 q0
      obtain ⟨l1, k1, w1, m1⟩ := longs_of h1 e1 d1 q1
      obtain ⟨l2, k2, w2, m2⟩ := fls_of h2 e2 d2 q2
      exact ⟨c0, c1, c2, ⟨l0, l1, l2⟩, rfl, ⟨k0, k1, k2⟩, ⟨w0, w1, w2, m0, m1, m2⟩⟩
end Go.Proofs.YtigikgphipebiaaGreatDoor
/- Layer 13: keys of codes: pure. -/
namespace Go.Proofs.YtigikgphipebiaaGreatDoor
set_option maxRecDepth 100000
open Go.RowKit
set_option linter.unusedVariables false
/-- The key of codes for a set, the number of keys of a set, of the dimensions from the i-th on. -/
def keyG (d c : Nat → Int) (p : Nat → Bool) : Nat → Int
  | 0 => 0
  | k + 1 => if p k = true then keyG d c p k * d k + c k else keyG d c p k
def numG (d : Nat → Int) (p : Nat → Bool) : Nat → Int
  | 0 => 1
  | k + 1 => if p k = true then numG d p k * d k else numG d p k
def tailG (d : Nat → Int) (p : Nat → Bool) (i : Nat) : Nat → Int
  | 0 => 1
  | j + 1 => if p (i + j) = true then tailG d p i j * d (i + j) else tailG d p i j
theorem tailG_num (d : Nat → Int) (p : Nat → Bool) : ∀ n, tailG d p 0 n = numG d p n
  | 0 => rfl
  | n + 1 => by
    unfold tailG numG
    rw [tailG_num d p n, Nat.zero_add]
theorem tailG_pos {d : Nat → Int} {p : Nat → Bool} {n i : Nat} (hd : ∀ k, k < n → 1 ≤ d k) : ∀ j, i + j ≤ n → 1 ≤ tailG d p i j
  | 0, _ => by simp [tailG]
  | j + 1, h => by
    have h1 := tailG_pos (p := p) (i := i) hd j (by omega)
    have h2 := hd (i + j) (by omega)
    unfold tailG
    split
    · have := Int.mul_le_mul h1 h2 (by omega) (by omega)
      omega
    · exact h1
theorem tailG_cons (d : Nat → Int) (p : Nat → Bool) (i : Nat) : ∀ j, tailG d p i (j + 1) = (if p i = true then d i else 1) * tailG d p (i + 1) j
  | 0 => by
    simp only [tailG, Nat.add_zero]
    split <;> simp
  | j + 1 => by
    rw [tailG, tailG_cons d p i j]
    show _ = (if p i = true then d i else 1) * (if p (i + 1 + j) = true then tailG d p (i + 1) j * d (i + 1 + j) else tailG d p (i + 1) j)
    have e : i + (j + 1) = i + 1 + j := by omega
    rw [e]
    split
    · rw [Int.mul_assoc]
    · rfl
/-- The codes of the set from the i-th on are in their ranges. -/
def InG (d c : Nat → Int) (p : Nat → Bool) (n : Nat) : Prop := ∀ k, k < n → p k = true → 0 ≤ c k ∧ c k < d k
theorem keyG_split {d c : Nat → Int} {p : Nat → Bool} {n i : Nat} (hd : ∀ k, k < n → 1 ≤ d k) (hc : InG d c p n) : ∀ j, i + j ≤ n → ∃ r, 0 ≤ r ∧ r < tailG d p i j ∧ keyG d c p (i + j) = keyG d c p i * tailG d p i j + r
  | 0, _ => ⟨0, by simp, by simp [tailG], by simp [tailG]⟩
  | j + 1, h => by
    obtain ⟨r, h0, h1, h2⟩ := keyG_split (i := i) hd hc j (by omega)
    have hdj := hd (i + j) (by omega)
    have eT : tailG d p i (j + 1) = if p (i + j) = true then tailG d p i j * d (i + j) else tailG d p i j := rfl
    have eK : keyG d c p (i + (j + 1)) = if p (i + j) = true then keyG d c p (i + j) * d (i + j) + c (i + j) else keyG d c p (i + j) := rfl
    rw [eT, eK]
    by_cases hp : p (i + j) = true
    · obtain ⟨c0, c1⟩ := hc (i + j) (by omega) hp
      simp only [if_pos hp]
      refine ⟨r * d (i + j) + c (i + j), ?_, ?_, ?_⟩
      · have := Int.mul_nonneg h0 (show 0 ≤ d (i + j) by omega)
        omega
      · have h3 : (r + 1) * d (i + j) ≤ tailG d p i j * d (i + j) := Int.mul_le_mul_of_nonneg_right (by omega) (by omega)
        rw [Int.add_mul, Int.one_mul] at h3
        omega
      · rw [h2, Int.add_mul, Int.mul_assoc, Int.add_assoc]
    · simp only [if_neg hp]
      exact ⟨r, h0, h1, h2⟩
theorem keyG_range {d c : Nat → Int} {p : Nat → Bool} {n : Nat} (hd : ∀ k, k < n → 1 ≤ d k) (hc : InG d c p n) : 0 ≤ keyG d c p n ∧ keyG d c p n < numG d p n := by
  obtain ⟨r, h0, h1, h2⟩ := keyG_split (i := 0) hd hc n (by omega)
  rw [Nat.zero_add] at h2
  rw [tailG_num] at h1
  have e : keyG d c p 0 = 0 := rfl
  rw [e, Int.zero_mul] at h2
  omega
/-- The i-th code of a key. -/
def codG (d : Nat → Int) (p : Nat → Bool) (n : Nat) (q : Int) (i : Nat) : Int := if p i = true then q / tailG d p (i + 1) (n - i - 1) % d i else -1
/-- What dividing step by step leaves, from the last dimension on. -/
theorem rest_stepG {d : Nat → Int} {p : Nat → Bool} {n : Nat} (hd : ∀ k, k < n → 1 ≤ d k) (q : Int) {i : Nat} (hi : i < n) : q / tailG d p i (n - i) = if p i = true then q / tailG d p (i + 1) (n - (i + 1)) / d i else q / tailG d p (i + 1) (n - (i + 1)) := by
  have ht := tailG_pos (p := p) (i := i + 1) hd (n - i - 1) (by omega)
  have e : n - i = n - i - 1 + 1 := by omega
  have e2 : n - (i + 1) = n - i - 1 := by omega
  rw [e2, e, tailG_cons]
  split
  · rw [Int.mul_comm (d i), ← Int.ediv_ediv_of_nonneg (by omega)]
    rfl
  · rw [Int.one_mul]
    rfl
/-- The k-th dimension is in a set. -/
def bitG (m : Int) (k : Nat) : Bool := decide (m / 2 ^ k % 2 = 1)
theorem keys_num (ds : List (ByteArray × Int)) (m : Int) : ∀ n, keysL ds m n = numG (dz ds) (bitG m) n
  | 0 => rfl
  | n + 1 => by
    have ih := keys_num ds m n
    unfold keysL numG bitG
    rw [ih]
    by_cases h : m / 2 ^ n % 2 = 1
    · rw [if_pos h, if_pos (decide_eq_true h)]; rfl
    · rw [if_neg h, if_neg (by rw [decide_eq_false h]; decide)]; rfl
theorem sizes_one {ds : List (ByteArray × Int)} (h : sizB ds = true) : ∀ k, k < ds.length → 1 ≤ dz ds k := fun k hk => (siz_get h hk).1
end Go.Proofs.YtigikgphipebiaaGreatDoor
