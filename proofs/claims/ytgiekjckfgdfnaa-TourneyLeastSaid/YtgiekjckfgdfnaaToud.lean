/- Layer 16: the queue's Swap and Pop. -/
import Derived.Test.YtgiekjckfgdfnaaTouc
namespace Go.Proofs.Ytgiekjckfgdfnaa
set_option maxRecDepth 100000
open Go.RowKit
set_option linter.unusedVariables false
set_option maxHeartbeats 16000000 in
theorem qswap_any (w0 w : World) (M Q V : Nat) (v : Value) (Ls : List (List Int)) (a : Option Addr) (cap : Nat) (L : List Nat) (i j : Nat) (h : QSt w0 w M Q V v Ls a cap L) (hi : i < L.length) (hj : j < L.length) :
    Calls Try.prog 36 #[.pointer (some ⟨Q, 0, none⟩), .int .i64 i, .int .i64 j] w fun e w' => e = .returned (.tuple #[]) ∧ Que w' Q V a cap (clF M) (swapH L i j) ∧ Touch Q V w w' := by
  obtain ⟨x0, x1, x2⟩ := h.q.reads
  obtain ⟨rfl, y0, z0⟩ := h.q.at hi
  obtain ⟨-, y1, -⟩ := h.q.at hj
  have z1 := z0 i
  have z2 := z0 j
  have y2 := ((h.q.set (x := hg L j) hi).at (i := j) (by simpa using hj)).2.1
  have HS := Lib.hid (show ∀ n, Que (((w.drewN n).setCell ⟨V, i, none⟩ (.int .i64 (hg L j))).setCell ⟨V, j, none⟩ (.int .i64 (hg L i))) Q V (some ⟨V, 0, none⟩) cap (clF M) (swapH L i j) from fun n => (h.q.keep ((Drawn.refl w).next n).below).swap hi hj)
  have i1 : (i : Int) < (L.length : Int) := by omega
  have j1 : (j : Int) < (L.length : Int) := by omega
  have HT := Lib.hid (show Touch Q V w (((w.setCell ⟨V, i, none⟩ (.int .i64 (hg L j))).setCell ⟨V, j, none⟩ (.int .i64 (hg L i))).drew) from ((touch_set (.inr rfl)).trans (touch_set (.inr rfl))).trans (touch_of ((Drawn.refl _).next 1).below))
  clear h hi hj z0
  generalize hg (L.set i (hg L j)) j = u at *
  generalize hg L i = x at *
  generalize hg L j = y at *
  go_enter Try.func36, Try.ntmps36
  go_region

  all_goals
    refine bodyPost_end (results_none rfl _ _ _) rfl ?_
    exact ⟨rfl, HS.out 1, HT.out⟩
theorem Try.infoInt16 : (Try.prog.info? 3).map (fun i => (i.zero, i.size, i.bytes)) = some (some (.int .i64 0), 1, 8) := by kernel_rfl
theorem run_upto16 {w : World} {a : Option Addr} {cap l h : Nat} (hh : h ≤ cap) : (Instr.slice 26 (.slice a l cap) none (some (.int .i64 h)) none).run Try.prog w = .ok (.slice a h cap) w := by
  obtain ⟨i0, hi, hz0, hz1, hz2⟩ := info_parts Try.infoInt16
  simp [Instr.slice, run_underlying Try.underlying26, Instr.sliceBounds, Instr.sliceBound, asIntOf, sizeOf, typeInfo, hi, hh, go_sem]
set_option maxHeartbeats 16000000 in
theorem qpop_any (w0 w : World) (M Q V : Nat) (v : Value) (Ls : List (List Int)) (a : Option Addr) (cap : Nat) (L : List Nat) (h : QSt w0 w M Q V v Ls a cap L) (h0 : 0 < L.length) :
    Calls Try.prog 35 #[.pointer (some ⟨Q, 0, none⟩)] w fun e w' => e = .returned (.iface 3 (.int .i64 (hg L (L.length - 1)))) ∧ Que w' Q V a cap (clF M) (L.take (L.length - 1)) ∧ Touch Q V w w' := by
  obtain ⟨x0, x1, x2⟩ := h.q.reads
  obtain ⟨rfl, y0, z0⟩ := h.q.at (i := L.length - 1) (by omega)
  have HS := Lib.hid (h.q.cut (n := L.length - 1) (by omega))
  have HT := Lib.hid (touch_set (V := V) (w := w) (o := 0) (v := .slice (some ⟨V, 0, none⟩) (L.length - 1) cap) (k := Q) (Or.inl rfl))
  have hc := h.q.cap
  have hw := h.q.few
  have e1 : wrap64 ((L.length : Int) - 1) = ((L.length - 1 : Nat) : Int) := by rw [wrap64_in (by omega) (by omega)]; omega
  have i1 : ((L.length - 1 : Nat) : Int) < (L.length : Int) := by omega
  have hop : ∀ w', (Instr.slice 26 (.slice (some ⟨V, 0, none⟩) L.length cap) none (some (.int .i64 ((L.length - 1 : Nat) : Int))) none).run Try.prog w' = .ok (.slice (some ⟨V, 0, none⟩) (L.length - 1) cap) w' := fun w' => by
    exact run_upto16 (by omega)
  clear h h0 hc hw z0
  generalize hg L (L.length - 1) = x at *
  generalize L.length - 1 = k at *
  go_enter Try.func35, Try.ntmps35
  go_wp2_with (simp only [hop])
  go_ret
  exact ⟨rfl, HS.out, HT.out⟩
end Go.Proofs.Ytgiekjckfgdfnaa
