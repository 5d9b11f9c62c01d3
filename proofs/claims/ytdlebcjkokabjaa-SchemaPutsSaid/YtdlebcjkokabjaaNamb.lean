/- Slices of texts in memory; the program's Place, Words and Word, and the reference's. -/
import Derived.Test.YtdlebcjkokabjaaNama
import Derived.Test.YtdlebcjkokabjaaRows
import Derived.Lib.Hide
import Derived.Below
import Derived.WalkKit
import Derived.OpenShut
namespace Go.Proofs.Ytdlebcjkokabjaa
set_option maxRecDepth 100000
open Go.RowKit
set_option linter.unusedVariables false
/-- A slice value reads as these texts: where there is one, its cells stand in a block from there on. -/
def Strs (w : World) (v : Value) (l : List ByteArray) : Prop :=
  ∃ a cap, v = .slice a l.length cap ∧ l.length ≤ cap ∧ l.length ≤ 9223372036854775807 ∧ (l = [] ∨ ∃ b off, a = some ⟨b, off, none⟩ ∧ b < w.heap.size ∧ ∀ i, i < l.length → w.cell? ⟨b, off + i, none⟩ = some (.string (txt l i)))
theorem Strs.below {w w' : World} {v : Value} {l : List ByteArray} (h : Strs w v l) (hb : Below w.heap.size w w') : Strs w' v l := by
  obtain ⟨a, cap, rfl, h1, h2, h3⟩ := h
  refine ⟨a, cap, rfl, h1, h2, ?_⟩
  rcases h3 with h3 | ⟨b, off, rfl, hlt, hc⟩
  · exact .inl h3
  · exact .inr ⟨b, off, rfl, Nat.lt_of_lt_of_le hlt hb.size, fun i hi => (hb.cell (p := ⟨b, off + i, none⟩) hlt).trans (hc i hi)⟩
set_option maxHeartbeats 1000000 in
theorem index_any (v : Value) (l : List ByteArray) (s : ByteArray) (w : World) (h : Strs w v l) :
    Calls Try.prog 100 #[v, .string s] w fun e w' => e = .returned (.int .i64 (placeL l s)) ∧ w = w' := by
  obtain ⟨a, cap, rfl, h1, h2, h3⟩ := h
  rcases h3 with rfl | ⟨b, off, rfl, hlt, hc⟩
  · go_enter Try.func100, Try.ntmps100
    go_wp2
    refine wp_loop_rounds 1 ?_
    rw [rounds_succ]
    go_wp2
    go_ret
    exact ⟨rfl, rfl⟩
  · have HC := Lib.hid hc
    have HM := Lib.hid (@place_miss l s)
    have HH := Lib.hid (fun k => @place_hit l s k)
    generalize placeL l s = r at *
    clear hc
    go_enter Try.func100, Try.ntmps100
    go_wp2
    go_loopw [8] (fun i wr => ∃ k : Nat, k ≤ l.length ∧ i = .int .i64 k ∧ w = wr ∧ Hid (∀ j, j < k → txt l j ≠ s)) (fun i _ => l.length - (intOf i).toNat)
    case atStart => exact ⟨0, Nat.zero_le _, rfl, rfl, Lib.hid (fun j hj => by omega)⟩
    case round =>
      obtain ⟨k, hk, rfl, rfl, HB⟩ := hrel
      by_cases hlt : k < l.length
      · have hx := HC.out k hlt
        by_cases he : txt l k = s
        · rw [he] at hx
          have HR := Lib.hid (HH.out k hlt he HB.out)
          have e := toL_same s
          clear he
          go_wp2
          go_ret
          rw [HR.out]
          exact ⟨rfl, rfl⟩
        · have e := toL_ne (fun q => he q.symm)
          have HB2 := Lib.hid (fun j (hj : j < k + 1) => if q : j = k then q ▸ he else HB.out j (by omega))
          generalize txt l k = x at hx e
          clear he
          go_wp2
          go_roundw
          case rel => exact ⟨k + 1, by omega, by go_num, by trivial, HB2⟩
          case measure => simp [intOf]; omega
      · have : k = l.length := by omega
        subst this
        go_wp2
        go_ret
        rw [HM.out HB.out]
        exact ⟨rfl, rfl⟩
theorem place_any (v : Value) (l : List ByteArray) (s : ByteArray) (w : World) (h : Strs w v l) :
    Calls Try.prog 91 #[v, .string s] w fun e w' => e = .returned (.int .i64 (placeL l s)) ∧ w = w' := by
  have HI := Lib.hid (index_any v l s w h)
  obtain ⟨a, cap, rfl, h1, h2, h3⟩ := h
  generalize placeL l s = r at *
  clear h3
  go_enter Try.func91, Try.ntmps91
  go_wp2_with fail
  refine (HI.out).mono ?_; rintro e w' ⟨rfl, rfl⟩
  go_wp2_with fail
  go_ret
  exact ⟨rfl, rfl⟩
set_option maxHeartbeats 1000000 in
theorem rplace_any (v : Value) (l : List ByteArray) (s : ByteArray) (w : World) (h : Strs w v l) :
    Calls Try.prog 57 #[v, .string s] w fun e w' => e = .returned (.int .i64 (placeL l s)) ∧ w = w' := by
  obtain ⟨a, cap, rfl, h1, h2, h3⟩ := h
  rcases h3 with rfl | ⟨b, off, rfl, hlt, hc⟩
  · go_enter Try.func57, Try.ntmps57
    go_wp2
    refine wp_loop_rounds 1 ?_
    rw [rounds_succ]
    go_wp2
    go_ret
    exact ⟨rfl, rfl⟩
  · have HC := Lib.hid hc
    have HM := Lib.hid (@place_miss l s)
    have HH := Lib.hid (fun k => @place_hit l s k)
    generalize placeL l s = r at *
    clear hc
    go_enter Try.func57, Try.ntmps57
    go_wp2
    go_loopw [5] (fun i wr => ∃ k : Nat, k ≤ l.length ∧ i = .int .i64 k ∧ w = wr ∧ Hid (∀ j, j < k → txt l j ≠ s)) (fun i _ => l.length - (intOf i).toNat)
    case atStart => exact ⟨0, Nat.zero_le _, rfl, rfl, Lib.hid (fun j hj => by omega)⟩
    case round =>
      obtain ⟨k, hk, rfl, rfl, HB⟩ := hrel
      by_cases hlt : k < l.length
      · have hx := HC.out k hlt
        by_cases he : txt l k = s
        · rw [he] at hx
          have HR := Lib.hid (HH.out k hlt he HB.out)
          have e := toL_same s
          clear he
          go_wp2
          go_ret
          rw [HR.out]
          exact ⟨rfl, rfl⟩
        · have e := toL_ne he
          have HB2 := Lib.hid (fun j (hj : j < k + 1) => if q : j = k then q ▸ he else HB.out j (by omega))
          generalize txt l k = x at hx e
          clear he
          go_wp2
          go_roundw
          case rel => exact ⟨k + 1, by omega, by go_num, by trivial, HB2⟩
          case measure => simp [intOf]; omega
      · have : k = l.length := by omega
        subst this
        go_wp2
        go_ret
        rw [HM.out HB.out]
        exact ⟨rfl, rfl⟩
/-- A list that the call lays. -/
theorem strs_new (w : World) (l : List ByteArray) (t : TypeId) (hl : l.length ≤ 9223372036854775807) : Strs (w.alloc (.cells (l.map Value.string).toArray t)) (.slice (some ⟨w.heap.size, 0, none⟩) l.length l.length) l := by
  refine ⟨_, _, rfl, Nat.le_refl _, hl, .inr ⟨w.heap.size, 0, rfl, by simp, fun i hi => ?_⟩⟩
  rw [Nat.zero_add, cell_of_row _ _ _ _ _ _ (heap_alloc_new w _)]
  simp [txt, List.getD, List.getElem?_eq_getElem hi]
def NewList (l : List ByteArray) (w : World) (e : Ending) (w' : World) : Prop := ∃ v, e = .returned v ∧ Strs w' v l ∧ Below w.heap.size w w'
theorem words_any (w : World) : Calls Try.prog 92 #[] w (NewList wordsL w) := by
  have H := Lib.hid (strs_new w wordsL 9 (by decide))
  go_enter Try.func92, Try.ntmps92
  go_wp2
  go_ret
  exact ⟨_, rfl, H.out, (Below.refl _ _).alloc (Nat.le_refl _) _⟩
theorem rwords0_any (w : World) : Calls Try.prog 58 #[] w (NewList wordsL w) := by
  have H := Lib.hid (strs_new w wordsL 9 (by decide))
  go_enter Try.func58, Try.ntmps58
  go_wp2
  go_ret
  exact ⟨_, rfl, H.out, (Below.refl _ _).alloc (Nat.le_refl _) _⟩
theorem word_any (s : ByteArray) (w : World) :
    Calls Try.prog 81 #[.string s] w fun e w' => e = .returned (.bool (decide (0 ≤ placeL wordsL s))) ∧ Below w.heap.size w w' := by
  have H := Lib.hid (words_any w)
  have HP := Lib.hid (fun v w' (h : Strs w' v wordsL) => place_any v wordsL s w' h)
  unfold NewList at H
  generalize wordsL = l at *
  generalize placeL l s = r at *
  go_enter Try.func81, Try.ntmps81
  go_wp2_with fail
  refine (H.out).mono ?_; rintro e w1 ⟨v, rfl, hs, hb⟩
  have HC := Lib.hid (HP.out _ _ hs)
  have HB := Lib.hid hb
  obtain ⟨a, cap, rfl, -⟩ := hs
  clear hb HP H
  go_wp2_with fail
  refine (HC.out).mono ?_; rintro e w2 ⟨rfl, rfl⟩
  go_wp2_with fail
  go_ret
  exact ⟨rfl, HB.out⟩
end Go.Proofs.Ytdlebcjkokabjaa
