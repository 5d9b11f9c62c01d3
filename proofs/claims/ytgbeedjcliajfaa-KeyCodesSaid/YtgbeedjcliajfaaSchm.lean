/- Layer 11: a schema as it comes in. -/
import Derived.Test.YtgbeedjcliajfaaSchk
import Derived.Deep.Slices
import Derived.Deep.Fields
import Derived.ChangeSame
import Derived.ChangeSlices
import Derived.Lib.SmallJoins
import Derived.SliceStrings
namespace Go.Proofs.Ytgbeedjcliajfaa
set_option maxRecDepth 100000
open Go.RowKit
set_option linter.unusedVariables false
def exS : Sc := ⟨[(⟨#[97]⟩, 2), (⟨#[98]⟩, 3)], [], [], [1]⟩
theorem ex_check : checkL exS = 0 := by decide +kernel
theorem ex_full : fullL exS.ds = 3 := by decide
theorem ex_keys3 : keysL exS.ds 3 exS.ds.length = 6 := by decide
theorem ex_keys1 : keysL exS.ds 1 exS.ds.length = 2 := by decide
theorem ex_wf : SWf exS := by
  refine ⟨?_, ?_, ?_, ?_⟩
  · intro d h
    simp only [exS, List.mem_cons, List.not_mem_nil, or_false] at h
    rcases h with rfl | rfl <;> decide
  · intro s h; simp [exS] at h
  · intro s h; simp [exS] at h
  · intro v h
    simp only [exS, List.mem_cons, List.not_mem_nil, or_false] at h
    subst h; decide
theorem ex_dims (w : World) (N : Nat) (T : TypeId) (hN : w.heap.size = N) : Dims (w.alloc (.cells #[.string ⟨#[97]⟩, .int .i64 2, .string ⟨#[98]⟩, .int .i64 3] T)) (.slice (some ⟨N, 0, none⟩) 2 2) exS.ds := by
  subst hN
  refine ⟨_, _, rfl, by simp [exS], by simp [exS], .inr ⟨w.heap.size, 0, rfl, by simp, fun i hi => ?_⟩⟩
  have h2 : i < 2 := hi
  rcases (by omega : i = 0 ∨ i = 1) with rfl | rfl
  · exact ⟨by simp [go_sem, dn, exS], by simp [go_sem, dz, exS]⟩
  · exact ⟨by simp [go_sem, dn, exS], by simp [go_sem, dz, exS]⟩
theorem ex_k {w : World} {D I M V : Value} (h : Sch4 w D I M V exS) (m k : Int) (m0 : 0 ≤ m) (m1 : m ≤ 3) (hk : keysL exS.ds m exS.ds.length = k) :
    Calls Try.prog 29 #[SchV D I M V, .int .u32 m] w fun e w' => e = .returned (.tuple #[.int .u64 k, .bool true]) ∧ Below w.heap.size w w' := by
  have hx : checkL exS = 0 ∧ m ≤ fullL exS.ds := ⟨ex_check, by rw [ex_full]; exact m1⟩
  have := keys_any w D I M V exS m h ex_wf m0 (by omega)
  rwa [if_pos hx, decide_eq_true hx, hk] at this
theorem ex_checkC {w : World} {D I M V : Value} (h : Sch4 w D I M V exS) :
    Calls Try.prog 30 #[SchV D I M V] w fun e w' => e = .returned (.int .i64 0) ∧ Below w.heap.size w w' := by
  have := check_any w D I M V exS h ex_wf
  rwa [ex_check] at this
theorem ints_two {W : World} {x y : Int} {T : TypeId} {N : Nat} (hN : W.heap.size = N) : Ints .u32 (W.alloc (.cells #[.int .u32 x, .int .u32 y] T)) (.slice (some ⟨N, 0, none⟩) 2 2) [x, y] := by
  subst hN
  refine ⟨_, _, rfl, Nat.le_refl _, .inr ⟨W.heap.size, 0, rfl, by simp, fun i hi => ?_⟩⟩
  have h2 : i < 2 := hi
  rcases (by omega : i = 0 ∨ i = 1) with rfl | rfl
  · simp [go_sem]
  · simp [go_sem]
set_option maxRecDepth 100000
open Go.RowKit Go.ChangeShapes Go.WideShapes Go.Deep
set_option linter.unusedVariables false
theorem dim_cells : Try.prog.cellsOf 40 = 2 ∧ Try.prog.cellsOf 9 = 1 ∧ Try.prog.cellsOf 3 = 1 := by
  refine ⟨?_, ?_, ?_⟩ <;> kernel_rfl
theorem read_dim {H : Type} {enc : TypeId × Value → H} {w : World} {base : Nat} {spare : Nat → Bool} {held : Bool} {fuel : Nat} {cs : List Value} {x : DataW H × List MemPlace}
    (h : DataW.trod enc Try.prog w base spare held fuel 40 cs = some x) :
    ∃ (s : ByteArray) (n : Int), cs = [.string s, .int .i64 n] ∧ s.size ≤ maxLen ∧ -9223372036854775808 ≤ n ∧ n ≤ 9223372036854775807 := by
  obtain ⟨xs, n, -, hx, hlen, hxl, hf⟩ := DataW.trod_struct Try.underlying40 h
  rw [dim_cells.1] at hlen
  match cs, hlen with
  | [c0, c1], _ =>
    match xs, hxl with
    | [y0, y1], _ =>
      have h0 := hf 0 _ rfl
      have h1 := hf 1 _ rfl
      simp only [List.getElem?_cons_succ] at h0 h1
      obtain ⟨s, e0, -, w0⟩ := DataW.trod_string Try.underlying9 h0
      obtain ⟨m, e1, -, w1⟩ := DataW.trod_int Try.underlying3 h1
      cases e0; cases e1
      simp [Lit.wf, IntKind.min, IntKind.max, IntKind.signed, IntKind.bits] at w1
      exact ⟨s, m, rfl, w0, by omega, by omega⟩
theorem dims_of {H : Type} {enc : TypeId × Value → H} {w : World} {base : Nat} {spare : Nat → Bool} {held : Bool} {fuel : Nat} {v : Value} {x : DataW H × List MemPlace}
    (h : DataW.trod enc Try.prog w base spare held fuel 22 [v] = some x) :
    ∃ ds, Dims w v ds ∧ ∀ d ∈ ds, d.1.size ≤ maxLen ∧ -9223372036854775808 ≤ d.2 ∧ d.2 ≤ 9223372036854775807 := by
  rcases open_slice Try.underlying22 h with ⟨hv, -⟩ | ⟨a, len, cap, m, nn, Dx, Pl, hv, -, hl, hcm, hmm, -, hi⟩
  · obtain rfl : v = .slice none 0 0 := by simpa using hv
    exact ⟨[], ⟨none, 0, rfl, by simp, by simp, .inl rfl⟩, fun _ h => by cases h⟩
  · obtain rfl : v = .slice (some a) len cap := by simpa using hv
    have hlm : len ≤ m := by rw [hmm]; split <;> omega
    have hq : ∀ k, ∃ q : ByteArray × Int, k < len → (∀ j, j < 2 → w.cell? ((a.add (k * 2)).add j) = [Value.string q.1, .int .i64 q.2][j]?) ∧ q.1.size ≤ maxLen ∧ -9223372036854775808 ≤ q.2 ∧ q.2 ≤ 9223372036854775807 := by
      intro k
      by_cases hk : k < len
      · obtain ⟨cs', hc, ht⟩ := hi k (by omega)
        obtain ⟨s, n, rfl, hwf⟩ := read_dim ht
        rw [dim_cells.1] at hc
        obtain ⟨-, -, hat⟩ := World.cells?_some hc
        exact ⟨(s, n), fun _ => ⟨hat, hwf⟩⟩
      · exact ⟨(ByteArray.empty, 0), fun h => absurd h hk⟩
    obtain ⟨q, hq⟩ := Classical.axiomOfChoice hq
    have hle : ((List.range len).map q).length = len := by simp
    have hget : ∀ k, k < len → ((List.range len).map q).getD k (ByteArray.empty, 0) = q k := fun k hk => by simp [List.getD, hk]
    refine ⟨(List.range len).map q, ⟨some a, cap, by rw [hle], by rw [hle]; exact hl, by rw [hle]; unfold maxLen at hcm; omega, ?_⟩, fun d hd => ?_⟩
    · by_cases h0 : len = 0
      · exact .inl (by subst h0; rfl)
      · refine .inr ?_
        obtain ⟨b, off, spot⟩ := a
        have hc := (hq 0 (by omega)).1 0 (by omega)
        have hspot : spot = none := by simpa [Addr.add] using World.cell?_spot hc
        subst hspot
        refine ⟨b, off, rfl, World.block_lt_of_cell? w _ hc, fun k hk => ?_⟩
        rw [hle] at hk
        have hh := (hq k hk).1
        have ha : (⟨b, off, none⟩ : Addr).add (k * 2) = ⟨b, off + k * 2, none⟩ := by
          by_cases k0 : k = 0
          · subst k0; simp [Addr.add]
          · have k6 : ¬ k * 2 = 0 := by omega
            simp only [Addr.add, if_neg k6]
        rw [ha] at hh
        have h0 := hh 0 (by omega)
        have h1 := hh 1 (by omega)
        simp only [Addr.add, if_true, Nat.one_ne_zero, if_false] at h0 h1
        unfold dn dz
        rw [hget k hk]
        exact ⟨h0, h1⟩
    · obtain ⟨k, hk, rfl⟩ := List.mem_map.1 hd
      exact (hq k (by simpa using hk)).2
theorem sets_of {H : Type} {enc : TypeId × Value → H} {w : World} {base : Nat} {spare : Nat → Bool} {held : Bool} {fuel : Nat} {v : Value} {x : DataW H × List MemPlace}
    (h : DataW.trod enc Try.prog w base spare held fuel 24 [v] = some x) :
    ∃ vs, Ints .u32 w v vs ∧ ∀ d ∈ vs, 0 ≤ d ∧ d ≤ 4294967295 := by
  rcases open_ints Try.underlying24 Try.underlying27 (by kernel_rfl) h with ⟨hcs, _⟩ | ⟨x, l, c, zs, hcs, _, hl, hm, hz, _, hcell, hwz⟩
  · obtain rfl : v = .slice none 0 0 := by simpa using hcs
    exact ⟨[], ⟨none, 0, rfl, by simp, .inl rfl⟩, fun _ h => by cases h⟩
  · obtain rfl : v = .slice (some x) l c := by simpa using hcs
    have hlz : l ≤ zs.length := by rw [hz]; split <;> omega
    have ht : (zs.take l).length = l := by rw [List.length_take]; omega
    refine ⟨zs.take l, ⟨some x, c, by rw [ht], by omega, ?_⟩, fun n hn => ?_⟩
    · by_cases h0 : l = 0
      · subst h0; exact .inl (by simp)
      · refine .inr ?_
        obtain ⟨b, off, spot⟩ := x
        have hc := hcell 0 (by omega)
        have hspot : spot = none := by simpa [Addr.add] using World.cell?_spot hc
        subst hspot
        refine ⟨b, off, rfl, World.block_lt_of_cell? w _ hc, fun i hi => ?_⟩
        rw [ht] at hi
        have e : (zs.take l).getD i 0 = zs.getD i 0 := by simp [List.getD, hi]
        rw [e]
        have hh := hcell i (by omega)
        by_cases h0 : i = 0
        · subst h0; simpa [Addr.add] using hh
        · simpa [Addr.add, h0] using hh
    · have := hwz n (List.mem_of_mem_take hn)
      simp [Lit.wf, IntKind.min, IntKind.max, IntKind.signed, IntKind.bits] at this
      omega
theorem texts_of {H : Type} {enc : TypeId × Value → H} {w : World} {base : Nat} {spare : Nat → Bool} {held : Bool} {fuel : Nat} {v : Value} {x : DataW H × List MemPlace}
    (h : DataW.trod enc Try.prog w base spare held fuel 23 [v] = some x) :
    ∃ l, Strs w v l ∧ ∀ s ∈ l, s.size ≤ maxLen := by
  rcases open_strings Try.underlying23 Try.underlying9 (by kernel_rfl) h with ⟨hcs, _⟩ | ⟨x, l, c, zs, hcs, _, hl, hm, hz, _, hcell, hwz⟩
  · obtain rfl : v = .slice none 0 0 := by simpa using hcs
    exact ⟨[], givenS_nil⟩
  · obtain rfl : v = .slice (some x) l c := by simpa using hcs
    have hlz : l ≤ zs.length := by rw [hz]; split <;> omega
    have ht : (zs.take l).length = l := by rw [List.length_take]; omega
    refine ⟨zs.take l, ⟨some x, c, by rw [ht], by omega, by rw [ht]; unfold maxLen at hm; omega, ?_⟩, fun n hn => hwz n (List.mem_of_mem_take hn)⟩
    by_cases h0 : l = 0
    · subst h0; exact .inl (by simp)
    · refine .inr ?_
      obtain ⟨b, off, spot⟩ := x
      have hc := hcell 0 (by omega)
      have hspot : spot = none := by simpa [Addr.add] using World.cell?_spot hc
      subst hspot
      refine ⟨b, off, rfl, World.block_lt_of_cell? w _ hc, fun i hi => ?_⟩
      rw [ht] at hi
      have e : txt (zs.take l) i = zs.getD i ByteArray.empty := by simp [txt, List.getD, hi]
      rw [e]
      have hh := hcell i (by omega)
      by_cases h0 : i = 0
      · subst h0; simpa [Addr.add] using hh
      · simpa [Addr.add, h0] using hh
theorem schema_of {H : Type} {enc : TypeId × Value → H} {w : World} {base : Nat} {spare : Nat → Bool} {held : Bool} {r : Reach} {b0 : Nat} {v : Value} {d : DataW H} {p : List MemPlace}
    (hv : Value.okWide Try.prog w r b0 26 v) (h : DataW.Trod enc Try.prog w base spare held 26 v d p) :
    ∃ D I N V S, v = SchV D I N V ∧ Sch4 w D I N V S ∧ SWf S := by
  obtain ⟨u0, u1, u2, u3, y0, y1, y2, y3, m, rfl, -, -, t0, t1, t2, t3⟩ := Go.Joins.open_agg4 Try.underlying26 (by kernel_rfl) (by kernel_rfl) hv h
  obtain ⟨ds, k0, w0⟩ := dims_of t0
  obtain ⟨is, k1, w1⟩ := texts_of t1
  obtain ⟨ns, k2, w2⟩ := texts_of t2
  obtain ⟨vs, k3, w3⟩ := sets_of t3
  exact ⟨u0, u1, u2, u3, ⟨ds, is, ns, vs⟩, rfl, ⟨k0, k1, k2, k3⟩, ⟨w0, w1, w2, w3⟩⟩
end Go.Proofs.Ytgbeedjcliajfaa
