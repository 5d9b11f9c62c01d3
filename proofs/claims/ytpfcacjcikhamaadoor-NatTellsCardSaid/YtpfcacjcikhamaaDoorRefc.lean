/- What the calls that make numbers return: the document's answer for layer 1. -/
import Derived.Test.YtpfcacjcikhamaaDoorRefb
import Derived.Deep.RegionHeld3
import Derived.Deep.DeepCutAuto
namespace Go.Proofs.YtpfcacjcikhamaaDoor
set_option maxRecDepth 100000
open Go.RowKit
def signed (neg : Bool) (z : Int) : Int := bif neg then -z else z
/-- A value of the reference's numbers reads as z: its digits tidy, the sign only where there is a digit. -/
def IsNum (w : World) (v : Value) (z : Int) : Prop :=
  ∃ neg s ds, v = .agg #[.bool neg, s] ∧ Ints .i64 w s ds ∧ Typed 3 w s ∧ Dig ds ∧ Tidy ds ∧ (neg = true → ds ≠ []) ∧ z = signed neg (val ds)
def MadeNum (w : World) (z : Int) (e : Ending) (w' : World) : Prop := ∃ v, e = .returned v ∧ IsNum w' v z ∧ Below w.heap.size w w'
theorem IsNum.below {w w' : World} {v : Value} {z : Int} (h : IsNum w v z) (hb : Below w.heap.size w w') : IsNum w' v z := by
  obtain ⟨neg, s, ds, h1, h2, h3, h4⟩ := h
  exact ⟨neg, s, ds, h1, h2.below hb, h3.below hb, h4⟩
/-- A number stays as it is where a cell of a block of another type is written. -/
theorem IsNum.set {w : World} {v : Value} {z : Int} (h : IsNum w v z) {p : Addr} (u : Value) {cur : Array Value} {T : TypeId} {fr : Nat × Nat} (hp : w.heap[p.block]? = some (.cells cur T fr)) (hne : T ≠ 3) : IsNum (w.setCell p u) v z := by
  obtain ⟨neg, s, ds, h1, h2, h3, h4⟩ := h
  exact ⟨neg, s, ds, h1, h2.set h3 u hp hne, h3.set p u, h4⟩
/-- The end of a call whose result is a number: the block that was laid for the result is written. -/
theorem made_end {w W wr : World} {N : Nat} {x y : Value} {z : Int} {u s : Value} (hN : W.heap.size = N) (hW : Below w.heap.size w W) (h : IsNum wr (.agg #[u, s]) z) (hb : Below (N + 1) (W.alloc (.cells #[x, y] 28)) wr) :
    IsNum ((wr.setCell ⟨N, 0, none⟩ u).setCell ⟨N, 1, none⟩ s) (.agg #[u, s]) z ∧ Below w.heap.size w ((wr.setCell ⟨N, 0, none⟩ u).setCell ⟨N, 1, none⟩ s) := by
  subst hN
  have hh : wr.heap[W.heap.size]? = some (.cells #[x, y] 28 (0, 0)) := by
    rw [hb.block _ (by omega)]; exact heap_alloc_new W _
  obtain ⟨cur, h2⟩ := heap_setCell_cells (p := ⟨W.heap.size, 0, none⟩) (u := u) hh
  refine ⟨(h.set u hh (by decide)).set s h2 (by decide), ?_⟩
  have hs := hW.size
  exact (((hW.alloc hs _).trans (hb.mono (by omega))).setCell hs _).setCell hs _
theorem pair_at {W wr : World} {N : Nat} {a b : Value} {T : TypeId} (hN : W.heap.size = N) (h : Below (N + 1) (W.alloc (.cells #[a, b] T)) wr) :
    wr.cell? ⟨N, 0, none⟩ = some a ∧ wr.cell? ⟨N, 1, none⟩ = some b ∧ wr.frozen? ⟨N, 0, none⟩ = false ∧ wr.frozen? ⟨N, 1, none⟩ = false := by
  subst hN; exact pair_later h
theorem Ints.take {k : IntKind} {w : World} {zs : List Int} {a : Option Addr} {l cap : Nat} (h : Ints k w (.slice a l cap) zs) {n : Nat} (hn : n ≤ zs.length) : Ints k w (.slice a n cap) (zs.take n) := by
  obtain ⟨a', cap', e, hc, ha⟩ := h
  simp only [Value.slice.injEq] at e
  obtain ⟨rfl, rfl, rfl⟩ := e
  have hl : (zs.take n).length = n := by rw [List.length_take]; omega
  refine ⟨a, cap, by rw [hl], by omega, ?_⟩
  rcases ha with h | ⟨b, off, rfl, hbl, hcell⟩
  · subst h; exact .inl (by simp)
  · refine .inr ⟨b, off, rfl, hbl, fun i hi => ?_⟩
    rw [hl] at hi
    rw [getD_take hi]; exact hcell i (by omega)
theorem below_one (w : World) (o : Obj) : Below w.heap.size w (w.alloc o) := (Below.refl _ _).alloc (Nat.le_refl _) o
theorem made_num {w : World} {a : Option Addr} {l cap : Nat} {ds : List Int} {n : Nat} {neg b : Bool} (o : Obj) (hv : Ints .i64 w (.slice a l cap) ds) (hT : Typed 3 w (.slice a l cap)) (hd : Dig ds) (hn : n ≤ ds.length) (hz : ∀ j, n ≤ j → ds.getD j 0 = 0) (ht : Tidy (ds.take n)) (hb : b = (neg && decide (0 < n))) :
    IsNum (w.alloc o) (.agg #[.bool b, .slice a n cap]) (signed neg (val ds)) := by
  refine ⟨b, _, ds.take n, rfl, (hv.take hn).below (below_one w o), hT.cut.below (below_one w o), hd.take n, ht, ?_, ?_⟩
  · intro e he
    have h1 : n = 0 := by
      have := congrArg List.length he
      rw [List.length_take, List.length_nil] at this
      omega
    subst h1; simp at hb; rw [hb] at e; cases e
  · rw [val_take hn hz]
    cases neg
    · simp at hb; subst hb; rfl
    · by_cases h0 : 0 < n
      · simp [h0] at hb; subst hb; rfl
      · have h1 : n = 0 := by omega
        subst h1
        have : val ds = 0 := by rw [← val_take hn hz]; rfl
        simp at hb; subst hb; simp [signed, this]
set_option maxHeartbeats 1000000 in
theorem made_any (neg : Bool) (v : Value) (ds : List Int) (w : World) (hv : Ints .i64 w v ds) (ht : Typed 3 w v) (hd : Dig ds) (hl : ds.length ≤ 1099511627776) :
    Calls Tryd.prog 82 #[.bool neg, v] w (MadeNum w (signed neg (val ds))) := by
  have HV := Lib.hid hv
  have HT := Lib.hid ht
  clear ht
  obtain ⟨ap, ac, rfl, hcap, -⟩ := hv
  go_enter Tryd.func82, Tryd.ntmps82
  go_wp2_with fail
  go_loop [5] (fun i => ∃ n : Nat, n ≤ ds.length ∧ i = .int .i64 n ∧ Hid (∀ j, n ≤ j → ds.getD j 0 = 0)) (fun i => (intOf i).toNat)
  case atStart => exact ⟨_, Nat.le_refl _, rfl, Lib.hid (fun j hj => getD_past hj)⟩
  case round =>
    obtain ⟨n, hn, rfl, hz⟩ := hrel
    by_cases h0 : n = 0
    · subst h0
      cases neg
      all_goals
        go_wp2_with fail
        exact bodyPost_ret (v := .agg #[.bool false, .slice ap 0 ac]) (by simp [results, Tryd.results82, go_sem]) rfl ⟨_, rfl, made_num _ HV.out HT.out hd (Nat.zero_le _) hz.out (.inl rfl) rfl, below_one _ _⟩
    · obtain ⟨m, rfl⟩ : ∃ m, n = m + 1 := ⟨n - 1, by omega⟩
      obtain ⟨b, off, hap, hb, hcell⟩ := HV.out.cell (i := m) (by omega)
      subst hap
      have hzz := Lib.hid (fun (x : Int) (hx : ds.getD m 0 = x) (e : x = 0) => (same_more (b := []) (by simpa [List.getD] using hz.out) (by rw [hx, e]; rfl) : ∀ j, m ≤ j → ds.getD j 0 = [].getD j 0))
      have ht := Lib.hid (fun (x : Int) (hx : ds.getD m 0 = x) (e : x ≠ 0) => (tidy_take (n := m + 1) hn (.inr (by rw [Nat.add_sub_cancel, hx]; exact e))))
      generalize hx : ds.getD m 0 = x at *
      have hzz2 := Lib.hid (hzz.out x rfl)
      have ht2 := Lib.hid (ht.out x rfl)
      clear hzz ht hx
      by_cases hx0 : x = 0
      · subst hx0
        go_wp2_with fail
        go_round
        case rel => exact ⟨m, by omega, by go_num, Lib.hid (by simpa [List.getD] using hzz2.out rfl)⟩
        case measure => simp [intOf]
      · cases neg
        all_goals
          go_wp2_with fail
        · exact bodyPost_ret (v := .agg #[.bool false, .slice (some ⟨b, off, none⟩) (m + 1) ac]) (by simp [results, Tryd.results82, go_sem]) rfl ⟨_, rfl, made_num _ HV.out HT.out hd hn hz.out (ht2.out hx0) rfl, below_one _ _⟩
        · exact bodyPost_ret (v := .agg #[.bool true, .slice (some ⟨b, off, none⟩) (m + 1) ac]) (by simp [results, Tryd.results82, go_sem]) rfl ⟨_, rfl, made_num _ HV.out HT.out hd hn hz.out (ht2.out hx0) (by simp), below_one _ _⟩
def NatRel (x0 : Int) (out : List Int) (x : Int) : Prop := x0 = val out + 1000 ^ out.length * x ∧ Dig out ∧ (x = 0 → Tidy out) ∧ out.length ≤ 100
theorem NatRel.start (x : Int) : NatRel x [] x := ⟨by simp [val_nil], Dig.nil, fun _ => .inl rfl, by simp⟩
theorem nat_bound {x0 x : Int} {n : Nat} {v : Int} (hv : 0 ≤ v) (h : x0 = v + 1000 ^ n * x) (hx : 0 < x) (h0 : x0 ≤ 18446744073709551615) : n ≤ 7 := by
  by_cases hn : n ≤ 7
  · exact hn
  · exfalso
    have h1 := p_mono (m := 8) (n := n) (by omega)
    have h2 : 1000 ^ n * 1 ≤ 1000 ^ n * x := Int.mul_le_mul_of_nonneg_left (by omega) (Int.le_of_lt (p_pos n))
    have h3 : (1000 : Int) ^ 8 = 1000000000000000000000000 := by decide
    omega
theorem NatRel.step {x0 x : Int} {out : List Int} (h : NatRel x0 out x) (hx : 0 < x) (h0 : x0 ≤ 18446744073709551615) : NatRel x0 (out ++ [x % 1000]) (x / 1000) := by
  obtain ⟨h1, h2, h3, h4⟩ := h
  have hb := nat_bound (val_range h2).1 h1 hx h0
  refine ⟨?_, h2.snoc (by omega) (by omega), ?_, by simp; omega⟩
  · rw [val_snoc, List.length_append, List.length_singleton, p_succ]
    have e := carry_step x (1000 ^ out.length)
    have e2 : 1000 ^ out.length * 1000 * (x / 1000) = x / 1000 * (1000 ^ out.length * 1000) := Int.mul_comm _ _
    have e3 : 1000 ^ out.length * x = x * 1000 ^ out.length := Int.mul_comm _ _
    omega
  · intro e
    refine .inr ?_
    have : (out ++ [x % 1000]).getD ((out ++ [x % 1000]).length - 1) 0 = x % 1000 := by simp [List.getD]
    rw [this]; omega
theorem NatRel.stop {x0 : Int} {out : List Int} (h : NatRel x0 out 0) : val out = x0 ∧ Dig out ∧ Tidy out := ⟨by have := h.1; simp at this; exact this.symm, h.2.1, h.2.2.1 rfl⟩
set_option maxHeartbeats 1000000 in
theorem nat_any (x : Int) (w : World) (h0 : 0 ≤ x) (h1 : x ≤ 18446744073709551615) :
    Calls Tryd.prog 20 #[.int .u64 x] w (MadeNum w x) := by
  obtain ⟨i0, hi, hz0, hz1, hz2⟩ := info_parts Tryd.infoInt
  go_enter Tryd.func20, Tryd.ntmps20
  go_wp2_with fail
  have hr0 : ∀ b c, (w.alloc (.cells #[b, c] 28)).cell? ⟨w.heap.size, 0, none⟩ = some b := fun b c => by simp [go_sem]
  go_loopw [0, 3] (fun y o wr => ∃ (z : Int) (out : List Int), y = .int .u64 z ∧ 0 ≤ z ∧ z ≤ 18446744073709551615 ∧ Hid (NatRel x out z) ∧
      Hid (wr.ownsRow (w.heap.size + 1) 3 1 o out.length (out.map (Value.int .i64))) ∧ Hid (Below (w.heap.size + 1) (w.alloc (.cells #[.bool false, .slice none 0 0] 28)) wr)) (fun y _ _ => (intOf y).toNat)
  case atStart => exact ⟨x, [], rfl, h0, h1, Lib.hid (NatRel.start x), Lib.hid (World.ownsRow_nil _ _ _ _), Lib.hid (Below.refl _ _)⟩
  case round =>
    obtain ⟨z, out, rfl, hz0', hz1', hR, hown, hnx⟩ := hrel
    have hsz := hnx.out.size
    have hol : out.length ≤ 100 := hR.out.2.2.2
    by_cases hz : 0 < z
    · have hR2 := Lib.hid (hR.out.step hz h1)
      go_wp2_with (at_builtin; refine wpList_append_own _ rfl _ _ 26 rfl (w.heap.size + 1) 3 i0 (.int .i64 0) 1 8 Tryd.underlying26 hi hz0 hz1 hz2 rfl (by decide) _ _ _ rfl (hown.out.alloc _) ⟨wr.heap.size, 0, none⟩ 1 1 [.int .i64 (z % 1000)] rfl rfl (cell_one_new _ _ _) (one_int _ _) (room63 (by omega)) (room47 (by omega)) (by simp at hsz ⊢; omega) ?_; intro v' w1 hown' hgrow _)
      have hP := Lib.hid (own_push rfl (by simpa using hsz) hnx.out hown.out hown' hgrow)
      clear hown' hgrow hown hnx hsz
      go_wp2_with fail
      go_roundw
      case rel => exact ⟨z / 1000, out ++ [z % 1000], rfl, by omega, by omega, hR2, Lib.hid hP.out.1, Lib.hid hP.out.2⟩
      case measure => simp [intOf]; omega
    · obtain rfl : z = 0 := by omega
      have hE := Lib.hid hR.out.stop
      clear hR
      obtain ⟨hp1, hp2, hp3, hp4⟩ := pair_later hnx.out
      obtain ⟨a, cap, rfl⟩ := own_slice hown.out
      go_wp2_with fail
      have hN := made_end (w := w) (u := .bool false) rfl (Below.refl _ _) ⟨false, _, out, rfl, Ints.own hown.out, Typed.own hown.out, hE.out.2.1, hE.out.2.2, (fun e => by cases e), rfl⟩ hnx.out
      refine bodyPost_ret (v := .agg #[.bool false, .slice a out.length cap]) ?_ rfl ⟨_, rfl, ?_, hN.2⟩
      · simp [results, Tryd.results20, go_sem, hp1, hp2]
      · have := hN.1; rw [← hE.out.1]; exact this
end Go.Proofs.YtpfcacjcikhamaaDoor
