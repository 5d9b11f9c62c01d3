/- Matrices of package crc: zeroByte, times, squared; Join. -/
import Derived.Test.YtagogjdibbckkaaDoorCrcd
import Derived.Laws.CopyOwn
import Derived.Laws.Tables
import Derived.Deep.WholeRow
namespace Go.Proofs.YtagogjdibbckkaaDoor
set_option maxRecDepth 100000
open Go.RowKit
set_option linter.unusedVariables false
/-- The cells of a matrix. -/
def mv (m : List Nat) : Array Value := (m.map fun x : Nat => Value.int .u32 (x : Int)).toArray
theorem mv_size (m : List Nat) : (mv m).size = m.length := by simp [mv]
/-- A matrix whose first k columns stand. -/
def fillM (L : Nat → Nat) (k : Nat) : List Nat := (List.range 32).map fun i => if i < k then L i else 0
theorem fillM_len (L : Nat → Nat) (k : Nat) : (fillM L k).length = 32 := by simp [fillM]
theorem fillM_get (L : Nat → Nat) (k i : Nat) (h : i < 32) : (fillM L k).getD i 0 = if i < k then L i else 0 := by
  simp [fillM, List.getD, h]
theorem fillM_set (L : Nat → Nat) (k : Nat) (h : k < 32) : (mv (fillM L k)).setIfInBounds k (.int .u32 (L k : Int)) = mv (fillM L (k + 1)) := by
  apply Array.ext
  · simp [mv, fillM]
  · intro i h1 h2
    have hi : i < 32 := by simpa [mv, fillM] using h2
    by_cases e : k = i
    · subst e; simp [mv, fillM]
    · rw [Array.getElem_setIfInBounds_ne (by simpa [mv, fillM] using hi) e]
      have : (i < k) ↔ (i < k + 1) := by omega
      simp [mv, fillM, this]
theorem fillM_zero (L : Nat → Nat) : mv (fillM L 0) = #[.int .u32 0, .int .u32 0, .int .u32 0, .int .u32 0, .int .u32 0, .int .u32 0, .int .u32 0, .int .u32 0, .int .u32 0, .int .u32 0, .int .u32 0, .int .u32 0, .int .u32 0, .int .u32 0, .int .u32 0, .int .u32 0, .int .u32 0, .int .u32 0, .int .u32 0, .int .u32 0, .int .u32 0, .int .u32 0, .int .u32 0, .int .u32 0, .int .u32 0, .int .u32 0, .int .u32 0, .int .u32 0, .int .u32 0, .int .u32 0, .int .u32 0, .int .u32 0] := by
  simp [mv, fillM, List.range, List.range.loop]
/-- What a byte of 0 makes of one bit. -/
def zL (i : Nat) : Nat := sh8 (2 ^ i)
/-- Two matrices of the call's own: the answer's, and the one that is filled. -/
def Two32 (w : World) (N : Nat) (a b : List Nat) (wr : World) : Prop :=
  wr.heap[N]? = some (.cells (mv a) 35 (0, 0)) ∧ wr.heap[N + 1]? = some (.cells (mv b) 35 (0, 0)) ∧ Below w.heap.size w wr ∧ w.heap.size ≤ N
theorem Two32.set {w : World} {N : Nat} {a : List Nat} {L : Nat → Nat} {k : Nat} {wr : World} (h : Two32 w N a (fillM L k) wr) (hk : k < 32) : Two32 w N a (fillM L (k + 1)) (wr.setCell ⟨N + 1, k, none⟩ (.int .u32 (L k : Int))) := by
  obtain ⟨h1, h2, h3, h4⟩ := h
  rw [setCell_eq_setRow wr (N + 1) k _ _ _ _ h2, fillM_set L k hk]
  exact ⟨by rw [setRow_other _ _ _ _ (by omega)]; exact h1, setRow_heap _ _ _ _ _ _ h2, below_setRow h3 (by omega) _, h4⟩
theorem Two32.call {w : World} {N : Nat} {a b : List Nat} {wr w' : World} (h : Two32 w N a b wr) (hb : Below wr.heap.size wr w') : Two32 w N a b w' := by
  obtain ⟨h1, h2, h3, h4⟩ := h
  exact ⟨by rw [hb.block N (Array.getElem?_eq_some_iff.1 h1).1]; exact h1, by rw [hb.block (N + 1) (Array.getElem?_eq_some_iff.1 h2).1]; exact h2, h3.trans (hb.mono h3.size), h4⟩
theorem mat_info : (Tryd.prog.info? 35).map (·.size) = some 32 := by kernel_rfl
theorem mv_one (m : List Nat) : (mv m).all (·.oneCell') = true := by simp [mv, Value.oneCell']
set_option maxHeartbeats 1000000 in
theorem zero_any (w : World) (hT : Fours w) :
    Calls Tryd.prog 15 #[] w fun e w' => (∃ m, e = .returned (.agg (mv m)) ∧ Mat m (passN (2 ^ 0))) ∧ Below w.heap.size w w' := by
  have HT := Lib.hid hT
  clear hT
  go_enter Tryd.func15, Tryd.ntmps15
  go_upto_region 2 with fail
  rw [← fillM_zero zL]
  have hW : Hid (Two32 w w.heap.size (fillM zL 0) (fillM zL 0) ((w.alloc (.cells (mv (fillM zL 0)) 35)).alloc (.cells (mv (fillM zL 0)) 35))) :=
    Lib.hid ⟨heap_alloc2_old _ _ _, heap_alloc2_new _ _ _, (below_one w _).alloc (by simp) _, Nat.le_refl _⟩
  generalize (w.alloc (.cells (mv (fillM zL 0)) 35)).alloc (.cells (mv (fillM zL 0)) 35) = W at *
  generalize hN : w.heap.size = N at *
  have HN := Lib.hid hN
  clear hN
  go_wp2_with fail
  go_loopw [3] (fun i wr => ∃ k : Nat, k ≤ 32 ∧ i = .int .i64 k ∧ Hid (Two32 w N (fillM zL 0) (fillM zL k) wr)) (fun i _ => 32 - (intOf i).toNat)
  case atStart => exact ⟨0, by omega, rfl, hW⟩
  case round =>
    obtain ⟨k, hk, rfl, hH⟩ := hrel
    by_cases hlt : k < 32
    · have hcell : wr.cell? ⟨N + 1, k, none⟩ = some (.int .u32 0) := by
        rw [cell_of_row wr (N + 1) k _ _ _ hH.out.2.1]; simp [mv, fillM, hlt]
      have hfz := frozen_of_row wr (N + 1) k _ _ hH.out.2.1
      have hp : 2 ^ k < 4294967296 := Nat.lt_of_lt_of_le (Nat.pow_lt_pow_right (by decide) hlt) (by decide)
      have hS := Lib.hid (shift_any (2 ^ k) hp wr (HT.out.call hH.out.2.2.1))
      have hW2 := Lib.hid (hH.out.set hlt)
      rw [show sh8 (2 ^ k) = zL k from rfl] at hS
      have hsh : (2 : Int) ^ k % 4294967296 = ((2 ^ k : Nat) : Int) := by
        have e : ((2 ^ k : Nat) : Int) = (2 : Int) ^ k := by simp
        have h2 := Nat.mod_eq_of_lt hp
        rw [← e]
        clear e hS hW2 hH hcell hfz
        generalize 2 ^ k = p at *
        omega
      clear hH
      generalize zL k = z at *
      generalize 2 ^ k = p at *
      go_wp2_with fail
      refine (hS.out).mono ?_; rintro e w' ⟨rfl, rfl⟩
      go_wp2_with fail
      go_roundw
      case rel => exact ⟨k + 1, by omega, by go_num, hW2⟩
      case measure => simp [intOf]; omega
    · obtain rfl : k = 32 := by omega
      have h0 := hH.out.1
      have h1 := hH.out.2.1
      have hs0 := mat_info
      have hM : Hid (Mat (fillM zL 32) (passN (2 ^ 0))) := Lib.hid (mat_one (fillM_len _ _) (fun i hi => by rw [fillM_get _ _ _ hi, if_pos hi]; rfl))
      have hE : Hid (Below w.heap.size w (wr.setRow N (mv (fillM zL 32)))) := Lib.hid (below_setRow hH.out.2.2.1 hH.out.2.2.2 _)
      have hR := setRow_heap wr N (mv (fillM zL 0)) (mv (fillM zL 32)) _ _ h0
      have hl0 : (mv (fillM zL 0)).size = 32 := by rw [mv_size, fillM_len]
      have hl1 : (mv (fillM zL 32)).size = 32 := by rw [mv_size, fillM_len]
      have hone := mv_one (fillM zL 32)
      clear hH
      generalize mv (fillM zL 0) = c0 at *
      generalize hc1 : mv (fillM zL 32) = c1 at *
      have HC1 := Lib.hid hc1
      have HR := Lib.hid hR
      have HL1 := Lib.hid hl1
      have HL0 := Lib.hid hl0
      have H0 := Lib.hid h0
      have H1 := Lib.hid h1
      have HS := Lib.hid hs0
      have HO := Lib.hid hone
      clear hc1 hR hl1 hl0 h0 h1 hs0 hone
      go_wp2_with (first
        | (with_reducible refine wpList_load_row rfl _ _ rfl (N + 1) rfl _ c1 _ _ H1.out Tryd.underlying35 rfl (by rw [HS.out, HL1.out]) ?_)
        | (with_reducible refine wpList_store_row rfl _ _ _ rfl N c1 rfl rfl _ c0 H0.out (by rw [HS.out, HL1.out]) (by rw [HL0.out, HL1.out]) HO.out ?_))
      refine bodyPost_ret (v := .agg c1) ?_ rfl ⟨⟨_, by rw [HC1.out], hM.out⟩, hE.out⟩
      exact results_cell_row rfl _ _ N _ c1 _ _ rfl HR.out Tryd.underlying35 rfl (by rw [HS.out, HL1.out])
theorem mv_get (m : List Nat) (k : Nat) (h : k < m.length) : (mv m)[k]? = some (.int .u32 ((m.getD k 0 : Nat) : Int)) := by
  simp [mv, List.getD, h]
theorem info_u32 : (Tryd.prog.info? 23).map (fun i => (i.zero, i.size, i.bytes)) = some (some (.int .u32 0), 1, 4) := by kernel_rfl
theorem run_index_mv (c : Array Value) (k : Nat) (g : Int) (W : World) (hk : k < 32) (hc : c[k]? = some (.int .u32 g)) : (Instr.index 35 (.agg c) (.int .i64 (k : Int))).run Tryd.prog W = .ok (.int .u32 g) W := by
  obtain ⟨i0, hi, hz0, hz1, hz2⟩ := info_parts info_u32
  have h1 : 0 ≤ (k : Int) ∧ (k : Int) < 32 := by omega
  have h2 : k < c.size := (Array.getElem?_eq_some_iff.1 hc).1
  simp [Instr.index, run_underlying Tryd.underlying35, asIntOf, sizeOf, typeInfo, hi, hz1, h1, part, hc, go_sem]
  intro h; omega
set_option maxHeartbeats 1000000 in
theorem times_any (m : List Nat) (r : Nat) (w : World) (hm : m.length = 32) (hlt : ∀ x ∈ m, x < 4294967296) (hr : r < 4294967296) :
    Calls Tryd.prog 16 #[.agg (mv m), .int .u32 r] w fun e w' => e = .returned (.int .u32 (linN m r 32 : Nat)) ∧ Below w.heap.size w w' := by
  have hl1 : (mv m).size = 32 := by rw [mv_size, hm]
  have hg := fun k (h : k < 32) => mv_get m k (by rw [hm]; exact h)
  have HG := Lib.hid hg
  have HL1 := Lib.hid hl1
  have HM := Lib.hid hm
  have HLt := Lib.hid hlt
  have HS := Lib.hid mat_info
  have HB := Lib.hid (below_one w (.cells (mv m) 35))
  have H1 := Lib.hid (heap_alloc_last w (.cells (mv m) 35))
  clear hl1 hg hm hlt
  generalize mv m = c at *
  go_enter Tryd.func16, Tryd.ntmps16
  go_upto_region 1 with fail
  generalize w.alloc (.cells c 35) = W at *
  generalize hN : w.heap.size = N at *
  have HN := Lib.hid hN
  clear hN
  go_wp2_with (with_reducible refine wpList_load_row rfl _ _ rfl N rfl _ c _ _ H1.out Tryd.underlying35 rfl (by rw [HS.out, HL1.out]) ?_)
  go_loop [5, 9] (fun p i => ∃ (k y : Nat), k ≤ 32 ∧ i = .int .i64 k ∧ p = .int .u32 y ∧ Hid (y = linN m r k)) (fun _ i => 32 - (intOf i).toNat)
  case atStart => exact ⟨0, 0, by omega, rfl, rfl, Lib.hid rfl⟩
  case round =>
    obtain ⟨k, y, hk, rfl, rfl, hH⟩ := hrel
    have hy : y < 4294967296 := by rw [hH.out]; exact lin_lt HLt.out r k
    by_cases hlt : k < 32
    · have hidx := run_index_mv c k _ W hlt (HG.out k hlt)
      have hgk : m.getD k 0 < 4294967296 := by
        have e : m.getD k 0 = m[k]'(by rw [HM.out]; exact hlt) := by simp [List.getD, HM.out, hlt]
        rw [e]; exact HLt.out _ (List.getElem_mem _)
      have hq : r / 2 ^ k < 4294967296 := Nat.lt_of_le_of_lt (Nat.div_le_self _ _) hr
      have hN : Hid (linN m r (k + 1) = y ^^^ (if r / 2 ^ k % 2 = 1 then m.getD k 0 else 0)) := Lib.hid (by rw [linN, ← hH.out])
      have hsh : (r : Int) / 2 ^ k = ((r / 2 ^ k : Nat) : Int) := by simp
      have hb1 := and1 _ hq
      clear hH
      generalize m.getD k 0 = g at *
      generalize r / 2 ^ k = q at *
      by_cases hq1 : q % 2 = 1
      · rw [hq1] at hb1
        have hx := bits_xor_u32_nat y g hy hgk
        have hN2 : Hid (y ^^^ g = linN m r (k + 1)) := Lib.hid (by rw [hN.out, if_pos hq1])
        clear hN
        generalize y ^^^ g = z at *
        go_wp2_with fail
        go_round
        case rel => exact ⟨k + 1, z, by omega, by go_num, rfl, hN2⟩
        case measure => simp [intOf]; omega
      · rw [show q % 2 = 0 by omega] at hb1
        have hN2 : Hid (y = linN m r (k + 1)) := Lib.hid (by rw [hN.out, if_neg hq1, Nat.xor_zero])
        clear hN
        go_wp2_with fail
        go_round
        case rel => exact ⟨k + 1, y, by omega, by go_num, rfl, hN2⟩
        case measure => simp [intOf]; omega
    · obtain rfl : k = 32 := by omega
      have hH2 := Lib.hid hH.out
      clear hH
      go_wp2_with fail
      go_ret
      exact ⟨ret_i (by rw [hH2.out]), by have := HB.out; rwa [← HN.out] at this⟩
/-- What doing a matrix twice makes of one bit. -/
def sqL (m : List Nat) (i : Nat) : Nat := linN m (m.getD i 0) 32
/-- Three matrices of the call's own. -/
def Three32 (w : World) (N : Nat) (c a b : List Nat) (wr : World) : Prop :=
  wr.heap[N]? = some (.cells (mv c) 35 (0, 0)) ∧ Two32 w (N + 1) a b wr ∧ w.heap.size ≤ N
theorem Three32.call {w : World} {N : Nat} {c a b : List Nat} {wr w' : World} (h : Three32 w N c a b wr) (hb : Below wr.heap.size wr w') : Three32 w N c a b w' :=
  ⟨by rw [hb.block N (Array.getElem?_eq_some_iff.1 h.1).1]; exact h.1, h.2.1.call hb, h.2.2⟩
theorem Three32.set {w : World} {N : Nat} {c a : List Nat} {L : Nat → Nat} {k : Nat} {wr : World} (h : Three32 w N c a (fillM L k) wr) (hk : k < 32) : Three32 w N c a (fillM L (k + 1)) (wr.setCell ⟨N + 1 + 1, k, none⟩ (.int .u32 (L k : Int))) := by
  refine ⟨?_, h.2.1.set hk, h.2.2⟩
  rw [setCell_eq_setRow wr (N + 1 + 1) k _ _ _ _ h.2.1.2.1, setRow_other _ _ _ _ (by omega)]; exact h.1
theorem heap_alloc3_old (w : World) (A B C : Obj) : (((w.alloc A).alloc B).alloc C).heap[w.heap.size]? = some A := by
  rw [heap_alloc_old _ _ (by simp; omega)]; exact heap_alloc2_old w A B
theorem heap_alloc3_mid (w : World) (A B C : Obj) : (((w.alloc A).alloc B).alloc C).heap[w.heap.size + 1]? = some B := by
  rw [heap_alloc_old _ _ (by simp)]; exact heap_alloc2_new w A B
theorem heap_alloc3_new (w : World) (A B C : Obj) : (((w.alloc A).alloc B).alloc C).heap[w.heap.size + 1 + 1]? = some C := by
  have h := heap_alloc_new ((w.alloc A).alloc B) C
  rwa [show ((w.alloc A).alloc B).heap.size = w.heap.size + 1 + 1 by simp] at h
set_option maxHeartbeats 1000000 in
theorem square_any (m : List Nat) (j : Nat) (w : World) (hm : Mat m (passN (2 ^ j))) :
    Calls Tryd.prog 17 #[.agg (mv m)] w fun e w' => (∃ q, e = .returned (.agg (mv q)) ∧ Mat q (passN (2 ^ (j + 1)))) ∧ Below w.heap.size w w' := by
  have HM := Lib.hid hm
  have hl1 : (mv m).size = 32 := by rw [mv_size, hm.1]
  have HG := Lib.hid (fun k (h : k < 32) => mv_get m k (by rw [hm.1]; exact h))
  have HS := Lib.hid mat_info
  clear hm
  go_enter Tryd.func17, Tryd.ntmps17
  go_upto_region 2 with fail
  rw [← fillM_zero (sqL m)]
  have hW : Hid (Three32 w w.heap.size m (fillM (sqL m) 0) (fillM (sqL m) 0) (((w.alloc (.cells (mv m) 35)).alloc (.cells (mv (fillM (sqL m) 0)) 35)).alloc (.cells (mv (fillM (sqL m) 0)) 35))) :=
    Lib.hid ⟨heap_alloc3_old _ _ _ _, ⟨heap_alloc3_mid _ _ _ _, heap_alloc3_new _ _ _ _, ((below_one w _).alloc (by simp) _).alloc (by simp; omega) _, by omega⟩, Nat.le_refl _⟩
  generalize ((w.alloc (.cells (mv m) 35)).alloc (.cells (mv (fillM (sqL m) 0)) 35)).alloc (.cells (mv (fillM (sqL m) 0)) 35) = W at *
  generalize hN : w.heap.size = N at *
  have HN := Lib.hid hN
  clear hN
  have HL1 := Lib.hid hl1
  clear hl1
  generalize hmc : mv m = c at *
  have HC := Lib.hid hmc
  clear hmc
  have hW1 : Hid (W.heap[N]? = some (.cells c 35 (0, 0))) := Lib.hid (by rw [← HC.out]; exact hW.out.1)
  go_wp2_with (with_reducible refine wpList_load_row rfl _ _ rfl N rfl _ c _ _ hW1.out Tryd.underlying35 rfl (by rw [HS.out, HL1.out]) ?_)
  go_loopw [7] (fun i wr => ∃ k : Nat, k ≤ 32 ∧ i = .int .i64 k ∧ Hid (Three32 w N m (fillM (sqL m) 0) (fillM (sqL m) k) wr)) (fun i _ => 32 - (intOf i).toNat)
  case atStart => exact ⟨0, by omega, rfl, hW⟩
  case round =>
    obtain ⟨k, hk, rfl, hH⟩ := hrel
    by_cases hlt : k < 32
    · have hidx := run_index_mv c k _ wr hlt (HG.out k hlt)
      have hx : m.getD k 0 < 4294967296 := by
        rw [HM.out.2.1 k hlt]; exact pass_lt _ (Nat.lt_of_lt_of_le (Nat.pow_lt_pow_right (by decide) hlt) (by decide))
      have hS := Lib.hid (times_any m (m.getD k 0) wr HM.out.1 (mat_lt HM.out) hx)
      rw [HC.out, show linN m (m.getD k 0) 32 = sqL m k from rfl] at hS
      have hWk : Hid (wr.heap[N]? = some (.cells c 35 (0, 0))) := Lib.hid (by rw [← HC.out]; exact hH.out.1)
      generalize m.getD k 0 = x at *
      go_wp2_with (with_reducible refine wpList_load_row rfl _ _ rfl N rfl _ c _ _ hWk.out Tryd.underlying35 rfl (by rw [HS.out, HL1.out]) ?_)
      refine (hS.out).mono ?_; rintro e w1 ⟨rfl, hb1⟩
      have hH1 := hH.out.call hb1
      have hcell : w1.cell? ⟨N + 1 + 1, k, none⟩ = some (.int .u32 0) := by
        rw [cell_of_row w1 (N + 1 + 1) k _ _ _ hH1.2.1.2.1]; simp [mv, fillM, hlt]
      have hfz := frozen_of_row w1 (N + 1 + 1) k _ _ hH1.2.1.2.1
      have hW2 := Lib.hid (hH1.set hlt)
      clear hH1 hb1 hS hidx hWk hH
      generalize sqL m k = z at *
      go_wp2_with fail
      go_roundw
      case rel => exact ⟨k + 1, by omega, by go_num, hW2⟩
      case measure => simp [intOf]; omega
    · obtain rfl : k = 32 := by omega
      have h0 := hH.out.2.1.1
      have h1 := hH.out.2.1.2.1
      have hMq : Hid (Mat (fillM (sqL m) 32) (passN (2 ^ (j + 1)))) := Lib.hid (mat_square HM.out (fillM_len _ _) (fun i hi => by rw [fillM_get _ _ _ hi, if_pos hi]; rfl))
      have hE : Hid (Below w.heap.size w (wr.setRow (N + 1) (mv (fillM (sqL m) 32)))) := Lib.hid (below_setRow hH.out.2.1.2.2.1 hH.out.2.1.2.2.2 _)
      have hR := setRow_heap wr (N + 1) (mv (fillM (sqL m) 0)) (mv (fillM (sqL m) 32)) _ _ h0
      have hl0 : (mv (fillM (sqL m) 0)).size = 32 := by rw [mv_size, fillM_len]
      have hl1 : (mv (fillM (sqL m) 32)).size = 32 := by rw [mv_size, fillM_len]
      have hone := mv_one (fillM (sqL m) 32)
      clear hH hW1 hW
      generalize mv (fillM (sqL m) 0) = c0 at *
      generalize hc1 : mv (fillM (sqL m) 32) = c1 at *
      have HC1 := Lib.hid hc1
      have HR := Lib.hid hR
      have HL2 := Lib.hid hl1
      have HL0 := Lib.hid hl0
      have H0 := Lib.hid h0
      have H1 := Lib.hid h1
      have HO := Lib.hid hone
      clear hc1 hR hl1 hl0 h0 h1 hone
      go_wp2_with (first
        | (with_reducible refine wpList_load_row rfl _ _ rfl (N + 1 + 1) rfl _ c1 _ _ H1.out Tryd.underlying35 rfl (by rw [HS.out, HL2.out]) ?_)
        | (with_reducible refine wpList_store_row rfl _ _ _ rfl (N + 1) c1 rfl rfl _ c0 H0.out (by rw [HS.out, HL2.out]) (by rw [HL0.out, HL2.out]) HO.out ?_))
      refine bodyPost_ret (v := .agg c1) ?_ rfl ⟨⟨_, by rw [HC1.out], hMq.out⟩, hE.out⟩
      exact results_cell_row rfl _ _ (N + 1) _ c1 _ _ rfl HR.out Tryd.underlying35 rfl (by rw [HS.out, HL2.out])
theorem and1_i64 (n : Nat) (h : n < 9223372036854775808) : bits .and .i64 (n : Int) 1 = ((n % 2 : Nat) : Int) := by
  show IntKind.i64.wrap ((BitVec.ofInt 64 (n : Int) &&& BitVec.ofInt 64 1).toNat : Int) = _
  have e1 : BitVec.ofInt 64 (n : Int) = BitVec.ofNat 64 n := BitVec.ofInt_natCast ..
  have e2 : BitVec.ofInt 64 1 = BitVec.ofNat 64 1 := rfl
  rw [e1, e2, BitVec.toNat_and, BitVec.toNat_ofNat, BitVec.toNat_ofNat, Nat.mod_eq_of_lt (by omega : n < 2 ^ 64), Nat.mod_eq_of_lt (by omega : 1 < 2 ^ 64), show (1 : Nat) = 2 ^ 1 - 1 from rfl, Nat.and_two_pow_sub_one_eq_mod, IntKind.wrap_i64]
  omega
/-- What Join's loop holds: the matrix of 2^j bytes. -/
def StepAt (w : World) (N j : Nat) (wr : World) : Prop := ∃ m, wr.heap[N]? = some (.cells (mv m) 35 (0, 0)) ∧ Mat m (passN (2 ^ j)) ∧ Below w.heap.size w wr ∧ w.heap.size ≤ N
theorem StepAt.call {w : World} {N j : Nat} {wr w' : World} (h : StepAt w N j wr) (hb : Below wr.heap.size wr w') : StepAt w N j w' := by
  obtain ⟨m, h1, h2, h3, h4⟩ := h
  exact ⟨m, by rw [hb.block N (Array.getElem?_eq_some_iff.1 h1).1]; exact h1, h2, h3.trans (hb.mono h3.size), h4⟩
set_option maxHeartbeats 1000000 in
theorem join_any (a b : Nat) (n : Int) (w : World) (ha : a < 4294967296) (hb : b < 4294967296) (n1 : -9223372036854775808 ≤ n) (n2 : n ≤ 9223372036854775807) (hT : Fours w) :
    Calls Tryd.prog 12 #[.int .u32 a, .int .u32 b, .int .i64 n] w fun e w' => e = .returned (.int .u32 ((passN n.toNat a ^^^ b : Nat) : Int)) ∧ Below w.heap.size w w' := by
  have HZ := Lib.hid (zero_any w hT)
  have HS := Lib.hid mat_info
  clear hT
  go_enter Tryd.func12, Tryd.ntmps12
  go_wp2_with fail
  refine (HZ.out).mono ?_; rintro e w1 ⟨⟨m0, rfl, hm0⟩, hb1⟩
  have hs0 : (mv m0).size = 32 := by rw [mv_size, hm0.1]
  have hst := run_storeCells_new (P := Tryd.prog) w1 35 (mv (fillM zL 0)) (mv m0) (by rw [mat_info, hs0]) (by rw [mv_size, mv_size, fillM_len, hm0.1]) (mv_one m0)
  rw [fillM_zero] at hst
  clear HZ
  go_wp2_with fail
  clear hst hs0
  have hW : Hid (StepAt w w1.heap.size 0 (w1.alloc (.cells (mv m0) 35))) := Lib.hid ⟨m0, heap_alloc_last _ _, hm0, hb1.alloc hb1.size _, hb1.size⟩
  clear hb1 hm0
  generalize w1.alloc (.cells (mv m0) 35) = W at *
  generalize w1.heap.size = N at *
  go_loopw [0, 8] (fun x r wr => ∃ (z : Int) (y j : Nat), r = .int .i64 z ∧ x = .int .u32 y ∧ -9223372036854775808 ≤ z ∧ z ≤ 9223372036854775807 ∧ y < 4294967296 ∧ Hid (passN (z.toNat * 2 ^ j) y = passN n.toNat a ∧ StepAt w N j wr)) (fun _ r _ => (intOf r).toNat)
  case atStart => exact ⟨n, a, 0, rfl, rfl, n1, n2, ha, Lib.hid ⟨by rw [Nat.pow_zero, Nat.mul_one], hW.out⟩⟩
  case round =>
    obtain ⟨z, y, j, rfl, rfl, hz1, hz2, hy, hH⟩ := hrel
    by_cases hz : 0 < z
    · obtain ⟨q, rfl⟩ := Int.eq_ofNat_of_zero_le (by omega : 0 ≤ z)
      obtain ⟨hP, m, hm1, hm2, hm3, hm4⟩ := hH.out
      have hsz : (mv m).size = 32 := by rw [mv_size, hm2.1]
      have hand := and1_i64 q (by omega)
      have hdiv : (q : Int) / 2 = ((q / 2 : Nat) : Int) := by omega
      have hq2 : q / 2 ≤ q := by omega
      rw [Int.toNat_natCast] at hP
      have HSz := Lib.hid hsz
      have HM1 := Lib.hid hm1
      clear hH hsz hm1
      by_cases hodd : q % 2 = 1
      · rw [hodd] at hand
        have hL := lin_all hm2 hy
        have hT := times_any m y wr hm2.1 (mat_lt hm2) hy
        rw [hL] at hT
        have HT := Lib.hid hT
        have hP2 : Hid (passN ((q / 2) * 2 ^ (j + 1)) (passN (2 ^ j) y) = passN n.toNat a) := Lib.hid (by rw [← pass_odd q y j hodd]; exact hP)
        have hy2 : passN (2 ^ j) y < 4294967296 := pass_lt _ hy
        have HQ := Lib.hid (fun w' => square_any m j w' hm2)
        have HB3 := Lib.hid hm3
        have HB4 := Lib.hid hm4
        clear hT hL hP hm2 hm3 hm4
        generalize passN (2 ^ j) y = y2 at *
        generalize mv m = c at *
        have hq0 : 0 < q := by omega
        have hlt : q / 2 < q := by omega
        generalize q / 2 = q2 at *
        go_wp2_with (with_reducible refine wpList_load_row rfl _ _ rfl N rfl _ c _ _ HM1.out Tryd.underlying35 rfl (by rw [HS.out, HSz.out]) ?_)
        refine (HT.out).mono ?_; rintro e w2 ⟨rfl, hb2⟩
        have HM2 : Hid (w2.heap[N]? = some (.cells c 35 (0, 0))) := Lib.hid (by rw [hb2.block N (Array.getElem?_eq_some_iff.1 HM1.out).1]; exact HM1.out)
        have HB2 : Hid (Below w.heap.size w w2) := Lib.hid (below_then HB3.out hb2)
        have HQ2 := Lib.hid (HQ.out w2)
        clear hb2 HT HB3 HQ
        go_wp2_with (with_reducible refine wpList_load_row rfl _ _ rfl N rfl _ c _ _ HM2.out Tryd.underlying35 rfl (by rw [HS.out, HSz.out]) ?_)
        refine (HQ2.out).mono ?_; rintro e w3 ⟨⟨s, rfl, hs⟩, hb3⟩
        have HM3 : Hid (w3.heap[N]? = some (.cells c 35 (0, 0))) := Lib.hid (by rw [hb3.block N (Array.getElem?_eq_some_iff.1 HM2.out).1]; exact HM2.out)
        have hss : (mv s).size = 32 := by rw [mv_size, hs.1]
        have HSS := Lib.hid hss
        have hF : Hid (StepAt w N (j + 1) (w3.setRow N (mv s))) := Lib.hid ⟨s, setRow_heap _ _ _ _ _ _ HM3.out, hs, below_setRow (below_then HB2.out hb3) HB4.out _, HB4.out⟩
        clear hss hs hb3
        go_wp2_with (with_reducible refine wpList_store_row rfl _ _ _ rfl N (mv s) rfl rfl _ c HM3.out (by rw [HS.out, HSS.out]) (by rw [HSz.out, HSS.out]) (mv_one s) ?_)
        generalize w3.setRow N (mv s) = w4 at *
        go_wp2_with fail
        go_roundw
        case rel => exact ⟨(q2 : Int), y2, j + 1, rfl, rfl, by omega, by omega, hy2, Lib.hid ⟨by rw [Int.toNat_natCast]; exact hP2.out, hF.out⟩⟩
        case measure => simp [intOf]; omega
      · rw [show q % 2 = 0 by omega] at hand
        have hP2 : Hid (passN ((q / 2) * 2 ^ (j + 1)) y = passN n.toNat a) := Lib.hid (by rw [← pass_even q y j (by omega)]; exact hP)
        have HQ2 := Lib.hid (square_any m j wr hm2)
        have HB3 := Lib.hid hm3
        have HB4 := Lib.hid hm4
        clear hP hm2 hm3 hm4
        generalize mv m = c at *
        have hq0 : 0 < q := by omega
        have hlt : q / 2 < q := by omega
        generalize q / 2 = q2 at *
        go_wp2_with (with_reducible refine wpList_load_row rfl _ _ rfl N rfl _ c _ _ HM1.out Tryd.underlying35 rfl (by rw [HS.out, HSz.out]) ?_)
        refine (HQ2.out).mono ?_; rintro e w3 ⟨⟨s, rfl, hs⟩, hb3⟩
        have HM3 : Hid (w3.heap[N]? = some (.cells c 35 (0, 0))) := Lib.hid (by rw [hb3.block N (Array.getElem?_eq_some_iff.1 HM1.out).1]; exact HM1.out)
        have hss : (mv s).size = 32 := by rw [mv_size, hs.1]
        have HSS := Lib.hid hss
        have hF : Hid (StepAt w N (j + 1) (w3.setRow N (mv s))) := Lib.hid ⟨s, setRow_heap _ _ _ _ _ _ HM3.out, hs, below_setRow (below_then HB3.out hb3) HB4.out _, HB4.out⟩
        clear hss hs hb3
        go_wp2_with (with_reducible refine wpList_store_row rfl _ _ _ rfl N (mv s) rfl rfl _ c HM3.out (by rw [HS.out, HSS.out]) (by rw [HSz.out, HSS.out]) (mv_one s) ?_)
        generalize w3.setRow N (mv s) = w4 at *
        go_wp2_with fail
        go_roundw
        case rel => exact ⟨(q2 : Int), y, j + 1, rfl, rfl, by omega, by omega, hy, Lib.hid ⟨by rw [Int.toNat_natCast]; exact hP2.out, hF.out⟩⟩
        case measure => simp [intOf]; omega
    · have hz0 : z.toNat = 0 := by omega
      have hP := hH.out.1
      rw [hz0, Nat.zero_mul] at hP
      have hE : Hid (y = passN n.toNat a) := Lib.hid hP
      obtain ⟨m, hm1, hm2, hm3, hm4⟩ := hH.out.2
      have HB := Lib.hid hm3
      have hx := bits_xor_u32_nat y b hy hb
      clear hH hP hz0 hm1 hm2 hm3 hm4
      go_wp2_with fail
      go_ret
      exact ⟨ret_i (by rw [hE.out]), HB.out⟩
end Go.Proofs.YtagogjdibbckkaaDoor
