/- The program's Twice: a map of what has occurred. -/
import Derived.Test.YtdlebcjkokabjaaNamd
import Derived.Maps.OwnSet
namespace Go.Proofs.Ytdlebcjkokabjaa
set_option maxRecDepth 100000
open Go.RowKit Go.Maps Go.WideMaps
set_option linter.unusedVariables false
theorem lawK : Keyed Try.prog 9 := string_keyed Try.underlying9
theorem zeroE (w : World) : (zeroValue 94).run Try.prog w = .ok (.agg #[]) w := by kernel_rfl
theorem key_of {l : List ByteArray} (hs : ∀ s ∈ l, s.size ≤ maxLen) {k : Nat} (hk : k < l.length) : keyOf Try.prog 9 (.string (txt l k)) = some (keyL (txt l k)) := by
  refine keyOf_string_mk Try.underlying9 ?_
  rw [txt_get hk]
  exact hs _ (List.getElem_mem hk)
set_option maxHeartbeats 2000000 in
theorem twice_any (v : Value) (l : List ByteArray) (w : World) (h : Strs w v l) (hl : l.length ≤ 1000000) (hs : ∀ s ∈ l, s.size ≤ maxLen) :
    Calls Try.prog 32 #[v] w fun e w' => e = .returned (.int .i64 (twiceL l)) ∧ Below w.heap.size w w' := by
  have hmm := @run_makeMap Try.prog
  obtain ⟨a, cap, rfl, h1, h2, h3⟩ := h
  rcases h3 with rfl | ⟨b, off, rfl, hlt, hc⟩
  · go_enter Try.func32, Try.ntmps32
    go_wp2
    refine wp_loop_rounds 1 ?_
    rw [rounds_succ]
    go_wp2
    go_ret
    exact ⟨rfl, (Below.refl _ _).alloc (Nat.le_refl _) _⟩
  · have HC := Lib.hid hc
    have HM := Lib.hid (@twice_miss l)
    have HH := Lib.hid (fun k => @twice_hit l k)
    have HK := Lib.hid (fun k => @key_of l hs k)
    have HS := Lib.hid (fun k => has_seen l k)
    have HN := Lib.hid (fun k => @seen_next l k)
    generalize twiceL l = r at *
    clear hc hs
    go_enter Try.func32, Try.ntmps32
    go_wp2
    go_loopw [11] (fun i wr => ∃ k : Nat, k ≤ l.length ∧ i = .int .i64 k ∧ Hid (wr.ownsMap Try.prog 9 (unitElem (H := Unit)) w.heap.size k (seen l k)) ∧ Hid (Below w.heap.size w wr) ∧ Hid (∀ j, j < k → twiceAt l j = false)) (fun i _ => l.length - (intOf i).toNat)
    case atStart => exact ⟨0, Nat.zero_le _, rfl, Lib.hid (World.ownsMap_made _ _ _ _), Lib.hid ((Below.refl _ _).alloc (Nat.le_refl _) _), Lib.hid (fun j hj => by omega)⟩
    case round =>
      obtain ⟨k, hk, rfl, HO, HB, HJ⟩ := hrel
      by_cases hlk : k < l.length
      · have hx : wr.cell? ⟨b, off + k, none⟩ = some (.string (txt l k)) := (HB.out.cell (p := ⟨b, off + k, none⟩) hlt).trans (HC.out k hlk)
        have HKK := Lib.hid (HK.out k hlk)
        have HSS := Lib.hid (HS.out k)
        have HNN := Lib.hid (HN.out k hlk)
        have HQ := Lib.hid (fun q : twiceAt l k = false => fun j (hj : j < k + 1) => if e : j = k then (e ▸ q : twiceAt l j = false) else HJ.out j (by omega))
        have HR := Lib.hid (fun q : twiceAt l k = true => HH.out k hlk q HJ.out)
        generalize twiceAt l k = t at *
        generalize txt l k = x at *
        generalize seen l k = D at *
        have HSz := Lib.hid HB.out.size
        go_wp2_with (first
          | (at_lookup; refine wpList_lookup_own_unit _ rfl _ _ 93 rfl 9 94 lawK Try.underlying93 (zeroE _) w.heap.size k D rfl HO.out _ _ rfl HKK.out ?_)
          | (at_mapUpdate; refine wpList_mapUpdate_own _ rfl _ _ _ 93 rfl 9 94 lawK Try.underlying93 (unitElem (H := Unit)) w.heap.size k D rfl (HO.out.alloc _) (by unfold maxLen; omega) _ _ _ rfl rfl HKK.out _ [] unitElem_mk ?_; intro w1 hown1 hgrow1)
          | fail)
        · have ht : t = true := by rw [← HSS.out]; assumption
          have HR2 := Lib.hid (HR.out ht)
          clear ht
          go_ret
          rw [HR2.out]
          exact ⟨rfl, HB.out.alloc HSz.out _⟩
        · have ht : t = false := by rw [← HSS.out]; assumption
          have HQ2 := Lib.hid (HQ.out ht)
          have HO1 := Lib.hid hown1
          rw [← HNN.out] at HO1
          have HB1 := Lib.hid ((HB.out.alloc HSz.out (.cells #[] 94)).grown hgrow1 (by have := HSz.out; simp; omega) (fun j hj => by cases hj; exact Nat.le_refl _))
          clear ht hown1 hgrow1
          go_wp2
          go_roundw
          case rel => exact ⟨k + 1, by omega, by go_num, HO1, HB1, HQ2⟩
          case measure => simp [intOf]; omega
      · have : k = l.length := by omega
        subst this
        have HR := Lib.hid (HM.out HJ.out)
        go_wp2
        go_ret
        rw [HR.out]
        exact ⟨rfl, HB.out⟩
end Go.Proofs.Ytdlebcjkokabjaa
