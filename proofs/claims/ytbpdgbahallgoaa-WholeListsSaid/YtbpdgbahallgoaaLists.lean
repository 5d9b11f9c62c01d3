/- WholeLists: for every list of int64 the statement's function returns true and changes nothing that was there. No condition. -/
import Derived.Test.YtbpdgbahallgoaaRows
import Derived.Test.YtbpdgbahallgoaaAwake1
import Derived.Test.YtbpdgbahallgoaaRefg
import Derived.WalkKit
import Derived.ProofKit
import Derived.OpenShut
import Derived.Below
namespace Go.Proofs.Ytbpdgbahallgoaa
open Go.ChangeShapes Go.WideShapes Go.ChangeAt Go.RowKit
/-- A slice that came in: it reads as these numbers, each of its kind. -/
def Given (k : IntKind) (w : World) (v : Value) (zs : List Int) : Prop := Ints k w v zs ∧ ∀ n ∈ zs, (Lit.int k n).wf = true
theorem given_nil {k : IntKind} {w : World} : Given k w (.slice none 0 0) [] := ⟨⟨none, 0, rfl, by simp, .inl rfl⟩, fun _ h => by cases h⟩
theorem given_row {k : IntKind} {w : World} {x : Addr} {l c : Nat} {zs : List Int} (hl : l ≤ c) (hz : zs.length = c) (hcell : ∀ i, i < zs.length → w.cell? (x.add i) = some (.int k (zs.getD i 0))) (hw : ∀ n ∈ zs, (Lit.int k n).wf = true) :
    Given k w (.slice (some x) l c) (zs.take l) := by
  have ht : (zs.take l).length = l := by rw [List.length_take]; omega
  refine ⟨⟨some x, c, by rw [ht], by omega, ?_⟩, fun n hn => hw n (List.mem_of_mem_take hn)⟩
  by_cases h0 : l = 0
  · subst h0; exact .inl (by simp)
  · refine .inr ?_
    obtain ⟨b, off, spot⟩ := x
    have hc := hcell 0 (by omega)
    have hspot : spot = none := by simpa [Addr.add] using World.cell?_spot hc
    subst hspot
    refine ⟨b, off, rfl, World.block_lt_of_cell? w _ hc, fun i hi => ?_⟩
    rw [ht] at hi
    rw [getD_take hi]
    have hh := hcell i (by omega)
    by_cases h0 : i = 0
    · subst h0; simpa [Addr.add] using hh
    · simpa [Addr.add, h0] using hh
theorem own_below {w w' : World} {B E : Nat} {v : Value} {n : Nat} {xs : List Value} (h : w.ownsRow B E 1 v n xs) (hb : Below w.heap.size w w') : w'.ownsRow B E 1 v n xs := by
  obtain ⟨hl, h⟩ := h
  refine ⟨hl, ?_⟩
  rcases h with h | ⟨g, cap, cur, h1, h2, h3, h4⟩
  · exact .inl h
  · exact .inr ⟨g, cap, cur, h1, h2, by rw [hb.block g (Array.getElem?_eq_some_iff.1 h3).1]; exact h3, h4⟩
theorem own_set {w : World} {B E : Nat} {v : Value} {n : Nat} {xs : List Value} (h : w.ownsRow B E 1 v n xs) {p : Addr} (hp : p.block < B) (u : Value) : (w.setCell p u).ownsRow B E 1 v n xs := by
  obtain ⟨hl, h⟩ := h
  refine ⟨hl, ?_⟩
  rcases h with h | ⟨g, cap, cur, h1, h2, h3, h4⟩
  · exact .inl h
  · exact .inr ⟨g, cap, cur, h1, h2, by rw [Below.heap_setCell _ _ _ _ (by omega)]; exact h3, h4⟩
theorem own_type {w : World} {B E : Nat} {v : Value} {n : Nat} {xs : List Value} (h : w.ownsRow B E 1 v n xs) : ∀ g, v.ownBlock = some g → B ≤ g ∧ ∃ cur fr, w.heap[g]? = some (.cells cur E fr) := by
  intro g hg
  obtain ⟨_, h⟩ := h
  rcases h with ⟨rfl, _⟩ | ⟨g', cap, cur, rfl, h2, h3, h4⟩
  · simp [Value.ownBlock] at hg
  · simp [Value.ownBlock] at hg; subst hg; exact ⟨h2, cur, _, h3⟩
/-- A number stays as it is where a row of another type has grown. -/
theorem IsNum.grown {w w' : World} {v : Value} {z : Int} {row : Option Nat} {T : TypeId} (h : IsNum w v z) (hrow : ∀ g, row = some g → ∃ cur fr, w.heap[g]? = some (.cells cur T fr)) (hne : T ≠ 3) (hg : w.grownBy w' row) : IsNum w' v z := by
  obtain ⟨b, s, d, h1, h2, h3, h4⟩ := h
  have key : ∀ b off l cap, s = .slice (some ⟨b, off, none⟩) l cap → w'.heap[b]? = w.heap[b]? := fun b off l cap e => by
    obtain ⟨cur, fr, hh⟩ := h3 b off l cap e
    refine hg.block b (Array.getElem?_eq_some_iff.1 hh).1 (fun e2 => ?_)
    obtain ⟨cur2, fr2, hh2⟩ := hrow b e2.symm
    rw [hh] at hh2
    simp only [Option.some.injEq, Obj.cells.injEq] at hh2
    exact hne hh2.2.1.symm
  refine ⟨b, s, d, h1, ?_, fun b off l cap e => by rw [key b off l cap e]; exact h3 b off l cap e, h4⟩
  obtain ⟨a, cap, rfl, hc, ha⟩ := h2
  refine ⟨a, cap, rfl, hc, ?_⟩
  rcases ha with h | ⟨b, off, rfl, hbl, hcell⟩
  · exact .inl h
  · exact .inr ⟨b, off, rfl, by have := hg.size; omega, fun i hi => by rw [World.cell?_of_block (key b off _ _ rfl)]; exact hcell i hi⟩
theorem Kept.grown {w w1 w2 : World} {N : Nat} {T : TypeId} {row : Option Nat} (h : Kept w N T w1) (hg : w1.grownBy w2 row) (hrow : ∀ g, row = some g → N + 1 ≤ g) : Kept w N T w2 := by
  obtain ⟨h1, h2, x, y, h3⟩ := h
  have hN := (Array.getElem?_eq_some_iff.1 h3).1
  exact ⟨h1.grown hg h1.size (fun k hk => by have := hrow k hk; omega), h2, x, y, by rw [hg.block N hN (fun e => by have := hrow N e.symm; omega)]; exact h3⟩
theorem IsNum.zero {w : World} : IsNum w (.agg #[.bool false, .slice none 0 0]) 0 := ⟨false, _, [], rfl, ⟨none, 0, rfl, by simp, .inl rfl⟩, Typed.none, Dig.nil, .inl rfl, (fun e => by cases e), rfl⟩
theorem reverse_getD {zs : List Int} {k : Nat} (hk : k < zs.length) : zs.reverse.getD k 0 = zs.getD (zs.length - 1 - k) 0 := by
  have h2 : zs.length - 1 - k < zs.length := by omega
  simp [List.getD, hk, h2]
theorem sumOf_reverse (zs : List Int) : sumOf zs.reverse = sumOf zs := by simp [sumOf, List.sum_reverse]
end Go.Proofs.Ytbpdgbahallgoaa
namespace Go.Proofs.Ytbpdgbahallgoaa.wholeLists
open Go.ChangeShapes Go.WideShapes Go.ChangeAt Go.RowKit
set_option linter.unusedVariables false
theorem own : ownKnob Try.prog.godebug = none := by kernel_rfl
theorem laidOut : laidOutB Try.prog = true := by kernel_rfl
theorem Try.infoInt64 : (Try.prog.info? 2).map (fun i => (i.zero, i.size, i.bytes)) = some (some (.int .i64 0), 1, 8) := by kernel_rfl
theorem below_drew {w w' : World} (h : Below w.drew.heap.size w.drew w') : Below w.heap.size w w' := (Below.refl _ _).drew.trans h
theorem ints_cells {k : IntKind} {w : World} {zs : List Int} {a : Option Addr} {l cap : Nat} (h : Ints k w (.slice a l cap) zs) (hne : 0 < zs.length) :
    ∃ b off, a = some ⟨b, off, none⟩ ∧ b < w.heap.size ∧ ∀ i, i < zs.length → w.cell? ⟨b, off + i, none⟩ = some (.int k (zs.getD i 0)) := by
  obtain ⟨a', cap', e, hc, ha⟩ := h
  simp only [Value.slice.injEq] at e
  obtain ⟨rfl, rfl, rfl⟩ := e
  rcases ha with h | h
  · subst h; simp at hne
  · exact h
theorem getD_mem {zs : List Int} {i : Nat} (h : i < zs.length) : zs.getD i 0 ∈ zs := by
  have : zs.getD i 0 = zs[i] := by simp [List.getD, h]
  rw [this]; exact List.getElem_mem h
theorem sized_sum (zs : List Int) (k : Nat) (hw : ∀ n ∈ zs, (Lit.int .i64 n).wf = true) (hl : zs.length ≤ 300) : Sized 8 (sumOf (zs.take k)) := by
  have h := sumOf_bound (zs.take k) (fun x hx => bounds_i64 (hw x (List.mem_of_mem_take hx)))
  have h2 : (zs.take k).length ≤ 300 := by rw [List.length_take]; omega
  exact sized8 (by omega) (by omega)
/-- What the loop holds after k rounds. -/
def Held (w : World) (zs : List Int) (k : Nat) (o : Value) (wr : World) : Prop :=
  (∃ x y, wr.cell? ⟨w.heap.size, 0, none⟩ = some x ∧ wr.cell? ⟨w.heap.size, 1, none⟩ = some y ∧ IsNum wr (.agg #[x, y]) (sumOf (zs.take k))) ∧
  Kept w w.heap.size 24 wr ∧ wr.ownsRow (w.heap.size + 1) 2 1 o (zs.reverse.take k).length ((zs.reverse.take k).map (Value.int .i64))
theorem set_cells {w w1 : World} {N : Nat} {T : TypeId} (h : Kept w N T w1) (u v : Value) :
    ((w1.setCell ⟨N, 0, none⟩ u).setCell ⟨N, 1, none⟩ v).cell? ⟨N, 0, none⟩ = some u ∧ ((w1.setCell ⟨N, 0, none⟩ u).setCell ⟨N, 1, none⟩ v).cell? ⟨N, 1, none⟩ = some v := by
  obtain ⟨h1, h2, x, y, h3⟩ := h
  have h4 := set_two (u := u) (v := v) h3
  exact ⟨by simp [World.cell?, h4], by simp [World.cell?, h4]⟩
/-- What stands behind the sum's store in a round. -/
def Mid (w : World) (zs : List Int) (k : Nat) (o : Value) (w3 : World) : Prop :=
  (∃ x y, w3.cell? ⟨w.heap.size, 0, none⟩ = some x ∧ w3.cell? ⟨w.heap.size, 1, none⟩ = some y ∧ IsNum w3 (.agg #[x, y]) (sumOf (zs.take (k + 1)))) ∧
  Kept w w.heap.size 24 w3 ∧ w3.ownsRow (w.heap.size + 1) 2 1 o (zs.reverse.take k).length ((zs.reverse.take k).map (Value.int .i64))
theorem mid_of {w w2 : World} {zs : List Int} {k : Nat} {o : Value} {u s : Value} {z : Int} (hk : Kept w w.heap.size 24 w2) (hq : IsNum w2 (.agg #[u, s]) z) (hz : z = sumOf (zs.take (k + 1)))
    (ho : w2.ownsRow (w.heap.size + 1) 2 1 o (zs.reverse.take k).length ((zs.reverse.take k).map (Value.int .i64))) :
    Mid w zs k o ((w2.setCell ⟨w.heap.size, 0, none⟩ u).setCell ⟨w.heap.size, 1, none⟩ s) := by
  subst hz
  exact ⟨⟨u, s, (set_cells hk u s).1, (set_cells hk u s).2, hk.num hq⟩, hk.store u s, own_set (own_set ho (by simp) u) (by simp) s⟩
theorem held_step {w w3 w4 : World} {zs : List Int} {k n : Nat} {o v' : Value} {q : Int} {ob : Obj} (h : Mid w zs k o w3) (hn : n = (zs.reverse.take k).length) (hq : zs.reverse.take (k + 1) = zs.reverse.take k ++ [q])
    (hown' : w4.ownsRow (w.heap.size + 1) 2 1 v' (n + 1) ((zs.reverse.take k).map (Value.int .i64) ++ [.int .i64 q])) (hg : (w3.alloc ob).grownBy w4 o.ownBlock) : Held w zs (k + 1) v' w4 := by
  obtain ⟨⟨x, y, hx, hy, hnum⟩, hk, ho⟩ := h
  have hN : w.heap.size + 1 ≤ w3.heap.size := by
    obtain ⟨_, _, x, y, h3⟩ := hk
    exact (Array.getElem?_eq_some_iff.1 h3).1
  have hP := own_push hn hN (Below.refl _ _) ho hown' hg
  have ht := own_type (ho.alloc ob)
  refine ⟨⟨x, y, ?_, ?_, (hnum.below (below_one w3 ob)).grown (fun g hg' => (ht g hg').2) (by decide) hg⟩, (hk.call (below_one w3 ob)).grown hg (fun g hg' => (ht g hg').1), by rw [hq]; exact hP.1⟩
  · rw [hP.2.cell (p := ⟨w.heap.size, 0, none⟩) (by simp)]; exact hx
  · rw [hP.2.cell (p := ⟨w.heap.size, 1, none⟩) (by simp)]; exact hy
set_option maxHeartbeats 1000000 in
theorem walk_long (a : Option Addr) (len cap : Nat) (w : World) (hl : 300 < len) :
    Calls Try.prog 5 #[.slice a len cap] w fun e w' => e = .returned (.bool true) ∧ Below w.heap.size w w' := by
  go_enter Try.func5, Try.ntmps5
  go_wp2_with fail
  refine (awake_any _).mono ?_; rintro e w' ⟨rfl, hb⟩
  go_wp2_with fail
  go_ret
  exact ⟨rfl, hb⟩
set_option maxHeartbeats 1000000 in
theorem walk_short (a : Option Addr) (cap : Nat) (zs : List Int) (w : World) (h0 : Given .i64 w (.slice a zs.length cap) zs) (hl : zs.length ≤ 300) :
    Calls Try.prog 5 #[.slice a zs.length cap] w fun e w' => e = .returned (.bool true) ∧ Below w.heap.size w w' := by
  obtain ⟨i0, hi, hz0, hz1, hz2⟩ := info_parts Try.infoInt64
  obtain ⟨hv, hwf⟩ := h0
  have HV := Lib.hid hv
  have HW := Lib.hid hwf
  clear hv hwf
  go_enter Try.func5, Try.ntmps5
  go_wp2_with fail
  go_loopw [4, 5] (fun o i wr => ∃ k : Nat, k ≤ zs.length ∧ i = .int .i64 k ∧ Hid (Held w zs k o wr)) (fun _ i _ => zs.length - (intOf i).toNat)
  case atStart => exact ⟨0, Nat.zero_le _, rfl, Lib.hid ⟨⟨_, _, by simp [go_sem], by simp [go_sem], IsNum.zero⟩, Kept.start _ _ _ _, World.ownsRow_nil _ _ _ _⟩⟩
  case round =>
    obtain ⟨k, hk, rfl, hH⟩ := hrel
    by_cases hlt : k < zs.length
    · obtain ⟨⟨x, y, hx, hy, hnum⟩, hkept, hown⟩ := hH.out
      obtain ⟨nb, np, nl, nc, e⟩ := hnum.shape
      simp only [Value.agg.injEq, Array.mk.injEq, List.cons.injEq, and_true] at e
      obtain ⟨rfl, rfl⟩ := e
      obtain ⟨b, off, rfl, hb0, hcells⟩ := ints_cells HV.out (by omega)
      have hb : b < wr.heap.size := by have := hkept.1.size; omega
      have hc1 := cell_later hkept.1 (hcells k hlt)
      have hjl : zs.length - 1 - k < zs.length := by omega
      have HC := Lib.hid (fun w1 (h : Below w.heap.size w w1) => cell_later h (hcells (zs.length - 1 - k) hjl))
      have hqb := bounds_i64 (HW.out _ (getD_mem hjl))
      have hp := bounds_i64 (HW.out _ (getD_mem hlt))
      have hsz := Lib.hid (sized_sum zs k HW.out hl)
      have hst := Lib.hid (take_snoc zs k hlt 0)
      have hrv := Lib.hid (take_snoc zs.reverse k (by simpa using hlt) 0)
      rw [reverse_getD hlt] at hrv
      generalize zs.getD k 0 = p at *
      generalize zs.getD (zs.length - 1 - k) 0 = q at *
      obtain ⟨p1, p2⟩ := hp
      have hzz := Lib.hid (by rw [hst.out, sumOf_snoc] : sumOf (zs.take k) + p = sumOf (zs.take (k + 1)))
      have hrl : (zs.reverse.take k).length ≤ 300 := by rw [List.length_take, List.length_reverse]; omega
      generalize hgl : (zs.reverse.take k).length = gl at *
      have HGL := Lib.hid hgl
      clear hgl
      have HN := Lib.hid hnum
      have HK := Lib.hid hkept
      have HO := Lib.hid hown
      clear hnum hkept hown hcells hH
      have hD := Lib.hid (fun w1 r (hb : Below wr.heap.size wr w1) (hr : IsNum w1 r p) => num_add _ r _ p 8 w1 (HN.out.below hb) hr hsz.out (sized8 (by omega) (by omega)) (by decide))
      go_wp2_with fail
      go_region_with (first
        | (go_at_call 8; refine (of_any p _ p1 p2).mono ?_; rintro e w1 ⟨r, rfl, hr, hb1⟩; replace hb1 := below_drew hb1; have hx1 := cell_later hb1 hx; have hy1 := cell_later hb1 hy)
        | (go_at_call 12; refine (hD.out _ _ hb1 hr).mono ?_; rintro e w2 ⟨q, rfl, hq, hb2⟩; have hk2 := (HK.out.call hb1).call hb2; have ho2 := own_below (own_below HO.out hb1) hb2; obtain ⟨rn, rp, rl, rc, rfl⟩ := hq.shape; obtain ⟨⟨x2, hx2⟩, ⟨y2, hy2⟩, hf1, hf2⟩ := hk2.cells))
      all_goals
        have hM := Lib.hid (mid_of (zs := zs) (k := k) (o := u4) hk2 hq hzz.out (by rw [HGL.out]; exact ho2))
        have hc3 := HC.out _ hM.out.2.1.1
        have hs3 := hM.out.2.1
        clear hk2 hq ho2 hb1 hb2 hr hx1 hy1 hx2 hy2 hf1 hf2 hD HN HK HO HC hx hy hc1 hzz
        have ho3 := Lib.hid hM.out.2.2
        rw [HGL.out] at ho3
        have hz3 : w.heap.size + 1 ≤ ((w2.setCell ⟨w.heap.size, 0, none⟩ (Value.bool rn)).setCell ⟨w.heap.size, 1, none⟩ (Value.slice rp rl rc)).heap.size := by
          obtain ⟨_, _, x, y, h3⟩ := hs3
          exact (Array.getElem?_eq_some_iff.1 h3).1
        clear hs3
        generalize (w2.setCell ⟨w.heap.size, 0, none⟩ (Value.bool rn)).setCell ⟨w.heap.size, 1, none⟩ (Value.slice rp rl rc) = w3 at *
        go_wp2_with (at_builtin; refine wpList_append_own _ rfl _ _ 43 rfl (w.heap.size + 1) 2 i0 (.int .i64 0) 1 8 Try.underlying43 hi hz0 hz1 hz2 rfl (by decide) _ _ _ rfl (ho3.out.alloc _) ⟨w3.heap.size, 0, none⟩ 1 1 [.int .i64 q] rfl rfl (cell_one_new _ _ _) (one_int _ _) (room63 (by omega)) (room47 (by omega)) (by simp; omega) ?_; intro v' w4 hown' hgrow _)
        have hS := Lib.hid (held_step hM.out HGL.out.symm hrv.out hown' hgrow)
        clear hown' hgrow hM ho3 hc3 hz3
        go_wp2_with fail
        go_roundw
        case rel => exact ⟨k + 1, by omega, by go_num, hS⟩
        case measure => simp [intOf]; omega
    · obtain rfl : k = zs.length := by omega
      obtain ⟨⟨x, y, hx, hy, hnum⟩, hkept, hown⟩ := hH.out
      rw [List.take_length] at hnum
      have hrt : zs.reverse.take zs.length = zs.reverse := by rw [List.take_of_length_le (by simp)]
      rw [hrt] at hown
      have hsz := sized_sum zs zs.length HW.out hl
      rw [List.take_length] at hsz
      obtain ⟨nb, np, nl, nc, e⟩ := hnum.shape
      simp only [Value.agg.injEq, Array.mk.injEq, List.cons.injEq, and_true] at e
      obtain ⟨rfl, rfl⟩ := e
      have hbd : ∀ x ∈ zs, -9223372036854775808 ≤ x ∧ x ≤ 9223372036854775807 := fun x hx => bounds_i64 (HW.out x hx)
      have S1 := Lib.hid (sum_any _ zs wr (HV.out.below hkept.1) (by omega) hbd)
      have S2 := Lib.hid (sum_any u4 zs.reverse wr (Ints.own hown) (by simp; omega) (fun x hx => hbd x (by simpa using hx)))
      rw [sumOf_reverse] at S2
      have S3 := Lib.hid (is_any _ (sumOf zs) 8 wr hnum hsz (by decide) (by decide))
      have hE := Lib.hid hkept.1
      clear hH hnum hkept hown hrt hsz hbd HV HW
      generalize clip (sumOf zs) = c at *
      generalize fitB (sumOf zs) = g at *
      go_wp2_with fail
      refine (S1.out).mono ?_; rintro e w' ⟨rfl, rfl⟩
      go_wp2_with fail
      refine (S2.out).mono ?_; rintro e w' ⟨rfl, rfl⟩
      go_wp2_with fail
      refine (S3.out).mono ?_; rintro e w1 ⟨rfl, hb1⟩
      go_wp2_with fail
      refine (awake_any _).mono ?_; rintro e w2 ⟨rfl, hb2⟩
      go_wp2_with fail
      go_ret
      exact ⟨ret_bool (by simp), (hE.out.trans (hb1.mono hE.out.size)).trans (hb2.mono (by have := hE.out.size; have := hb1.size; omega))⟩
theorem walk (a : Option Addr) (len cap : Nat) (zs : List Int) (w : World) (h0 : Given .i64 w (.slice a len cap) zs) :
    Calls Try.prog 5 #[.slice a len cap] w fun e w' => e = .returned (.bool true) ∧ Below w.heap.size w w' := by
  have hlen : len = zs.length := by
    obtain ⟨_, _, e, _⟩ := h0.1
    simp only [Value.slice.injEq] at e
    exact e.2.1
  subst hlen
  by_cases hl : zs.length ≤ 300
  · exact walk_short a cap zs w h0 hl
  · exact walk_long a _ cap w (by omega)
set_option maxRecDepth 100000 in
theorem lifted (os : Os) (started : os.Started) (H : Type) (enc : TypeId × Value → H) :
    ReturnsInHanded {} Try.checked os 5 .any (Rows.wholeListsSpec.pre6 enc Try.prog Try.f5 Rows.wholeListsRow.domain false) (Rows.wholeListsSpec.post enc Try.prog Try.f5 false true false false) := by
  refine returnsInHanded_of_change (C := Try.checked) own started (by kernel_rfl) Try.func5
    (ChangeSpec.witness6 (enc := enc) (C := Try.checked) false ⟨#[], #[.slice none 0 0], []⟩ 8 (by kernel_rfl) (by kernel_rfl) (by kernel_rfl) (by kernel_rfl)) ?_
  intro W base args ds gs before hval0 hW hcnd _
  have hval : ∀ (j : Nat) t v, Try.f5.params[j]? = some t → args[j]? = some v → Value.okWide Try.prog W .any base t v := hval0
  have hW' := hW
  obtain ⟨p, q, hA0, hV, rfl, hfz, hnd⟩ := hW
  have hA : DataW.TrodAll enc Try.prog W 0 (fun _ => true) true Try.f5.params.toList args.toList ds p := hA0
  rw [Try.params5] at hA hval
  obtain ⟨v0, vs0, d0, ds0, p0, q0, hargs, rfl, rfl, h0, r0⟩ := trodAll_cons hA
  obtain ⟨rfl, rfl, rfl⟩ := trodAll_nil r0
  obtain rfl : args = #[v0] := by cases args; simp_all
  obtain ⟨rfl, rfl⟩ := trodVars_none hV
  obtain ⟨a0, len0, cap0, rfl⟩ := okWide_slice Try.underlying43 (hval 0 43 v0 rfl rfl)
  have k0 := h0
  have lt0 : ∀ x ∈ p0, x.block < W.heap.size := by obtain ⟨m, hm⟩ := k0; exact DataW.trod_lt m _ _ _ hm
  obtain ⟨z0, w0⟩ : ∃ zs, Given .i64 W (.slice a0 len0 cap0) zs := by
    obtain ⟨fuel, hf⟩ := h0
    rcases open_ints Try.underlying43 Try.underlying2 (by kernel_rfl) hf with ⟨hcs, _⟩ | ⟨x, l, c, zs, hcs, _, hl, hm, hz, _, hcell, hwz⟩
    · simp [Value.cells] at hcs
      obtain ⟨rfl, rfl, rfl⟩ := hcs
      exact ⟨[], given_nil⟩
    · simp [Value.cells] at hcs
      obtain ⟨rfl, rfl, rfl⟩ := hcs
      exact ⟨_, given_row hl (by simpa using hz) hcell hwz⟩
  clear hA0 hval0
  refine (walk a0 len0 cap0 z0 W w0).mono fun e W' ⟨he, bel⟩ => ?_
  subst he
  exact ⟨_, rfl, _, _, _, [], _, [], hW', trodAll_mk1 (shut_bool Try.underlying4 _), (trodAll_cons_mk (Below.trod laidOut (by kernel_rfl) (of_decide_eq_true (by kernel_rfl)) k0 bel lt0) trodAll_mk0), rfl, bel.frame _, fun h => by cases h⟩

theorem over : Rows.wholeListsRow.holds Try.pinned (OpenSpec.ofChange Rows.wholeListsSpec) :=
  OpenClaim.holds_of_wide 5 Try.f5 rfl rfl rfl rfl rfl rfl rfl ⟨rfl, rfl, rfl, rfl, rfl⟩ rfl rfl rfl rfl rfl (by kernel_rfl) Try.func5 (by kernel_rfl)
    (of_decide_eq_true (by kernel_rfl)) (by unfold Func.isWrapper; first | (rw [if_pos (by decide +kernel)]; kernel_rfl) | (rw [if_neg (by decide +kernel)]; exact ⟨rfl, rfl⟩))
    (fun os started H enc _ => lifted os started H enc)
end Go.Proofs.Ytbpdgbahallgoaa.wholeLists
namespace Go.Proofs.Ytbpdgbahallgoaa
/-- The statement. -/
theorem wholeLists_holds : Rows.WholeListsSaid := wholeLists.over
#print axioms wholeLists_holds
end Go.Proofs.Ytbpdgbahallgoaa
