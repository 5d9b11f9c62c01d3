/- Layer 11: the program's parts of Check. -/
import Derived.Test.YtdlebcjkokabjaaScha
namespace Go.Proofs.Ytdlebcjkokabjaa
set_option maxRecDepth 100000
open Go.RowKit
set_option linter.unusedVariables false
theorem full_wrap {n : Nat} (hn : n ≤ 6) : ((2 ^ n - 1 : Int) % 4294967296 = 2 ^ n - 1) ∧ (0 : Int) ≤ 2 ^ n - 1 ∧ (2 : Int) ^ n - 1 ≤ 63 := by
  rcases (by omega : n = 0 ∨ n = 1 ∨ n = 2 ∨ n = 3 ∨ n = 4 ∨ n = 5 ∨ n = 6) with rfl | rfl | rfl | rfl | rfl | rfl | rfl <;> decide
theorem full_range {ds : List (ByteArray × Int)} (hn : ds.length ≤ 6) : 0 ≤ fullL ds ∧ fullL ds ≤ 63 := (full_wrap hn).2
theorem ret_u32 {a b : Int} (h : a = b) : Ending.returned (.int .u32 a) = Ending.returned (.int .u32 b) := by rw [h]
theorem ret_b {a b : Bool} (h : a = b) : Ending.returned (.bool a) = Ending.returned (.bool b) := by rw [h]
theorem base_any (w : World) (D I M V : Value) (S : Sc) (h : Sch4 w D I M V S) (hn : S.ds.length ≤ 6) :
    Calls Try.prog 24 #[SchV D I M V] w fun e w' => e = .returned (.int .u32 (fullL S.ds)) ∧ Below w.heap.size w w' := by
  obtain ⟨⟨a, c, rfl⟩, -, -, -⟩ := h.slices
  have HB := Lib.hid (below_one w (SchO (.slice a S.ds.length c) I M V))
  have hf := full_wrap hn
  clear h
  go_enter Try.func24, Try.ntmps24
  go_wp2_with fail
  go_ret
  exact ⟨rfl, HB.out⟩
theorem numbers_any (w : World) (D I M V : Value) (S : Sc) (h : Sch4 w D I M V S) :
    Calls Try.prog 28 #[SchV D I M V] w fun e w' => e = .returned (.bool (cntB S)) ∧ Below w.heap.size w w' := by
  obtain ⟨⟨a, c, rfl⟩, ⟨a2, c2, rfl⟩, ⟨a3, c3, rfl⟩, a4, c4, rfl⟩ := h.slices
  have HB := Lib.hid (below_one w (SchO (.slice a S.ds.length c) (.slice a2 S.is.length c2) (.slice a3 S.ns.length c3) (.slice a4 S.vs.length c4)))
  have HC := Lib.hid (show cntB S = (decide (1 ≤ S.ds.length) && decide (S.ds.length ≤ 6) && decide (S.is.length ≤ 3) && decide (S.ns.length ≤ 2) && decide (S.vs.length ≤ 15)) from rfl)
  generalize cntB S = r at *
  clear h
  go_enter Try.func28, Try.ntmps28
  go_wp2
  all_goals
    go_ret
    refine ⟨ret_b ?_, HB.out⟩
    rw [HC.out, Bool.eq_iff_iff]
    simp
    omega
theorem strs_one {W : World} {x : ByteArray} {N : Nat} {T : TypeId} (hN : W.heap.size = N) : Strs (W.alloc (.cells #[.string x] T)) (.slice (some ⟨N, 0, none⟩) 1 1) [x] := by
  subst hN; exact strs_new W [x] T (by simp)
theorem sown_grown {B : Nat} {w W w1 : World} {o : Value} {n : Nat} {xs : List Value} {E : TypeId} (hnx : Below B w W) (hB : B ≤ W.heap.size) (hown : W.ownsRow B E 1 o n xs) (hg : W.grownBy w1 o.ownBlock) : Below B w w1 :=
  hnx.grown hg hB (fun k hk => (hown.lt k hk).1)
set_option maxHeartbeats 2000000 in
theorem dimNames_any (w : World) (D I M V : Value) (S : Sc) (h : Sch4 w D I M V S) (hn : S.ds.length ≤ 1000) :
    Calls Try.prog 30 #[SchV D I M V] w (MadeS w.heap.size w (S.ds.map Prod.fst)) := by
  obtain ⟨i0, hi, hz0, hz1, hz2⟩ := info_parts Try.infoStr
  obtain ⟨a, cap, rfl, h1, h2, h3⟩ := h.d
  have HB := Lib.hid (below_one w (SchO (.slice a S.ds.length cap) I M V))
  clear h
  rcases h3 with h3 | ⟨b, off, rfl, hlt, hc⟩
  · rw [h3] at *
    go_enter Try.func30, Try.ntmps30
    go_wp2
    refine wp_loop_rounds 1 ?_
    rw [rounds_succ]
    go_wp2
    go_ret
    exact ⟨⟨_, rfl, sown0 _ _⟩, below_one w _⟩
  · have HC := Lib.hid hc
    have HT := Lib.hid (fun k (hk : k < S.ds.length) => show ((S.ds.take k).map Prod.fst) ++ [dn S.ds k] = (S.ds.take (k + 1)).map Prod.fst by rw [List.take_add_one, List.getElem?_eq_getElem hk, dn_get hk, List.map_append]; rfl)
    have HL := Lib.hid (fun k => show ((S.ds.take k).map Prod.fst).length ≤ 1000 by simp; omega)
    have HE := Lib.hid (show (S.ds.take S.ds.length).map Prod.fst = S.ds.map Prod.fst by rw [List.take_length])
    generalize hnn : S.ds.length = n at *
    clear hc
    go_enter Try.func30, Try.ntmps30
    go_wp2
    go_loopw [3, 9] (fun lv i wr => ∃ k : Nat, k ≤ n ∧ i = .int .i64 k ∧ Hid (SOwn wr w.heap.size lv ((S.ds.take k).map Prod.fst) ∧ Below w.heap.size w wr)) (fun _ i _ => n - (intOf i).toNat)
    case atStart => exact ⟨0, Nat.zero_le _, rfl, Lib.hid ⟨sown0 _ _, HB.out⟩⟩
    case round =>
      obtain ⟨k, hk, rfl, HS⟩ := hrel
      by_cases hlk : k < n
      · obtain ⟨c0, c1⟩ := HC.out k hlk
        have c0 : wr.cell? ⟨b, off + k * 2, none⟩ = _ := (HS.out.2.cell (p := ⟨b, off + k * 2, none⟩) hlt).trans c0
        have c1 : wr.cell? ⟨b, off + k * 2 + 1, none⟩ = _ := (HS.out.2.cell (p := ⟨b, off + k * 2 + 1, none⟩) hlt).trans c1
        have HTk := Lib.hid (HT.out k hlk)
        have HLk := Lib.hid (HL.out k)
        generalize dn S.ds k = x at *
        generalize dz S.ds k = z at *
        generalize (S.ds.take k).map Prod.fst = L at *
        obtain ⟨pa, pl, pc, rfl⟩ := own_slice3 HS.out.1
        have hsz := HS.out.2.size
        go_wp2_with (at_builtin; refine wpList_append_strs _ (by rfl) _ _ 23 rfl w.heap.size 9 i0 (.string ⟨#[]⟩) 16 Try.underlying23 hi hz0 hz1 hz2 rfl _ _ L [x] rfl rfl ((HS.out.1.alloc _).alloc _) (strs_one (by simp)) (by have := HLk.out; unfold maxLen; simp; omega) (by have := HLk.out; simp; omega) (by simp; omega) ?_; intro v' w1 hown hgrow; have HQ := Lib.hid (And.intro hown (sown_grown ((HS.out.2.alloc hsz _).alloc (by simp; omega) _) (by simp; omega) ((HS.out.1.alloc _).alloc _) hgrow)); obtain ⟨pv', lv', cv', rfl⟩ := own_slice3 hown; clear hown hgrow)
        go_roundw
        case rel => exact ⟨k + 1, by omega, by go_num, Lib.hid ⟨by rw [← HTk.out]; exact HQ.out.1, HQ.out.2⟩⟩
        case measure => simp [intOf]; omega
      · have : k = n := by omega
        subst this
        have HS2 := HS.out
        rw [HE.out] at HS2
        have HS3 := Lib.hid HS2
        clear HS2
        obtain ⟨pa, pl, pc, rfl⟩ := own_slice3 HS3.out.1
        go_wp2
        go_ret
        exact ⟨⟨_, rfl, HS3.out.1⟩, HS3.out.2⟩
set_option maxHeartbeats 1000000 in
theorem areNames_any (v : Value) (l : List ByteArray) (w : World) (h : Strs w v l) (hs : ∀ s ∈ l, s.size ≤ maxLen) :
    Calls Try.prog 31 #[v] w fun e w' => e = .returned (.bool (goodN l)) ∧ Below w.heap.size w w' := by
  obtain ⟨a, cap, rfl, h1, h2, h3⟩ := h
  rcases h3 with rfl | ⟨b, off, rfl, hlt, hc⟩
  · go_enter Try.func31, Try.ntmps31
    go_wp2
    refine wp_loop_rounds 1 ?_
    rw [rounds_succ]
    go_wp2
    go_ret
    exact ⟨rfl, Below.refl _ _⟩
  · have HC := Lib.hid hc
    have HM := Lib.hid (@goodN_good l)
    have HH := Lib.hid (fun k => @goodN_bad l k)
    have HI := Lib.hid (fun k (hk : k < l.length) wr => is_any (txt l k) wr (by rw [txt_get hk]; exact hs _ (List.getElem_mem hk)))
    generalize goodN l = r at *
    clear hc hs
    go_enter Try.func31, Try.ntmps31
    go_wp2
    go_loopw [7] (fun i wr => ∃ k : Nat, k ≤ l.length ∧ i = .int .i64 k ∧ Hid (Below w.heap.size w wr) ∧ Hid (∀ j, j < k → nameB (txt l j) = true)) (fun i _ => l.length - (intOf i).toNat)
    case atStart => exact ⟨0, Nat.zero_le _, rfl, Lib.hid (Below.refl _ _), Lib.hid (fun j hj => by omega)⟩
    case round =>
      obtain ⟨k, hk, rfl, HB, HJ⟩ := hrel
      by_cases hlk : k < l.length
      · have hx : wr.cell? ⟨b, off + k, none⟩ = some (.string (txt l k)) := (HB.out.cell (p := ⟨b, off + k, none⟩) hlt).trans (HC.out k hlk)
        have HIk := Lib.hid (HI.out k hlk wr)
        have HHk := Lib.hid (fun q => HH.out k hlk q)
        have HQ := Lib.hid (fun q : nameB (txt l k) = true => fun j (hj : j < k + 1) => if e : j = k then (e ▸ q : nameB (txt l j) = true) else HJ.out j (by omega))
        generalize nameB (txt l k) = t at *
        generalize txt l k = x at *
        go_wp2_with fail
        refine (HIk.out).mono ?_; rintro e w1 ⟨rfl, hb⟩
        have HB1 := Lib.hid (HB.out.trans (hb.mono HB.out.size))
        clear hb
        cases t with
        | true =>
          have HQ2 := Lib.hid (HQ.out rfl)
          go_wp2
          go_roundw
          case rel => exact ⟨k + 1, by omega, by go_num, HB1, HQ2⟩
          case measure => simp [intOf]; omega
        | false =>
          have HR := Lib.hid (HHk.out rfl)
          go_wp2
          go_ret
          rw [HR.out]
          exact ⟨rfl, HB1.out⟩
      · have : k = l.length := by omega
        subst this
        have HR := Lib.hid (HM.out HJ.out)
        go_wp2
        go_ret
        rw [HR.out]
        exact ⟨rfl, HB.out⟩
end Go.Proofs.Ytdlebcjkokabjaa
