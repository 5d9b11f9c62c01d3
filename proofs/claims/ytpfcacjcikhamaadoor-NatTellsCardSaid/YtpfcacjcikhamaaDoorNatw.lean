/- What Bits of package bushelref02 answers. -/
import Derived.Test.YtpfcacjcikhamaaDoorNumx
import Derived.Test.YtpfcacjcikhamaaDoorNatr
import Derived.Test.YtpfcacjcikhamaaDoorMeet
import Derived.Outline
import Derived.Deep.LoopGhost
namespace Go.Proofs.YtpfcacjcikhamaaDoor
set_option maxRecDepth 100000
open Go.RowKit
set_option linter.unusedVariables false
def BitsRel (w : World) (X P : Nat) (a b : Value) (z : Int) (n : Nat) (W : World) : Prop :=
  (∃ u t, (W.cell? ⟨P, 0, none⟩ = some u ∧ W.cell? ⟨P, 1, none⟩ = some t) ∧ IsNum W (.agg #[u, t]) (2 ^ n)) ∧ (W.cell? ⟨X, 0, none⟩ = some a ∧ W.cell? ⟨X, 1, none⟩ = some b) ∧ Kept w P 28 W ∧ IsNum W (.agg #[a, b]) z
theorem BitsRel.next {w W W1 W2 : World} {X P : Nat} {a b u t : Value} {z : Int} {n : Nat} (h : BitsRel w X P a b z n W) (hXP : X ≠ P) (h1 : Below W.heap.size W W1) (h2 : Below W1.heap.size W1 W2) (hr : IsNum W2 (.agg #[u, t]) (2 ^ (n + 1))) :
    BitsRel w X P a b z (n + 1) ((W2.setCell ⟨P, 0, none⟩ u).setCell ⟨P, 1, none⟩ t) := by
  obtain ⟨-, ⟨x1, x2⟩, hk, hz⟩ := h
  have hk2 := (hk.call h1).call h2
  have y1 := cell_later h2 (cell_later h1 x1)
  have y2 := cell_later h2 (cell_later h1 x2)
  obtain ⟨k1, k2, p, q, k3⟩ := id hk2
  obtain ⟨cur, k4⟩ := heap_setCell_cells (p := ⟨P, 0, none⟩) (u := u) k3
  refine ⟨⟨u, t, set_cells hk2 u t, hk2.num hr⟩, ⟨?_, ?_⟩, hk2.store u t, (((hz.below h1).below h2).set u k3 (by decide)).set t k4 (by decide)⟩
  · rw [World.cell?_setCell_far _ _ _ _ (by simp; omega), World.cell?_setCell_far _ _ _ _ (by simp; omega)]; exact y1
  · rw [World.cell?_setCell_far _ _ _ _ (by simp; omega), World.cell?_setCell_far _ _ _ _ (by simp; omega)]; exact y2
theorem pow2_less {m n : Nat} (h : (2 : Int) ^ m < 2 ^ n) : m < n := by
  by_cases g : m < n
  · exact g
  · have := pow2_mono (m := n) (n := m) (by omega); omega
theorem sized_pow2 {N : Nat} (h : N ≤ 1281) : Sized 1000 ((2 : Int) ^ N) := by
  have hp : (0 : Int) < 2 ^ N := Int.pow_pos (by decide)
  have hm : (2 : Int) ^ N ≤ 2 ^ 1281 := pow2_mono h
  have hc : (2 : Int) ^ 1281 < 1000 ^ 1000 := by decide +kernel
  exact ⟨by omega, by omega⟩
theorem bits_stop {z : Int} {n : Nat} (h0 : 0 ≤ z) (hn : n ≤ bitsZ z) (hz : ¬ (2 : Int) ^ n ≤ z) : n = bitsZ z := by
  by_cases e : z = 0
  · subst e; rw [show bitsZ 0 = 0 from rfl] at *; omega
  · have := bits_le (z := z) (by omega)
    have hb := bitsZ_pos (z := z) (by omega)
    have := pow2_less (m := bitsZ z - 1) (n := n) (by omega)
    omega
theorem bits_more {z : Int} {n : Nat} (hz : (2 : Int) ^ n ≤ z) : n < bitsZ z := by
  have hp : (0 : Int) < 2 ^ n := Int.pow_pos (by decide)
  exact pow2_less (Int.lt_of_le_of_lt hz (bits_lt (by omega)))
set_option maxHeartbeats 1000000 in
theorem bits_ref (v : Value) (z : Int) (w : World) (hv : IsNum w v z) (h0 : 0 ≤ z) (h1 : z < 2 ^ 1280) :
    Calls Tryd.prog 24 #[v] w fun e w' => e = .returned (.int .i64 (bitsZ z)) ∧ Below w.heap.size w w' := by
  obtain ⟨nb, np, nl, nc, rfl⟩ := hv.shape
  have hB0 := below_one w (.cells #[.bool nb, .slice np nl nc] 28)
  have hbz : bitsZ z ≤ 1280 := by
    by_cases e : z = 0
    · subst e; decide
    · have := bits_le (z := z) (by omega)
      have := pow2_less (m := bitsZ z - 1) (n := 1280) (by omega)
      omega
  have hsz : Sized 1000 z := by
    have hc : (2 : Int) ^ 1280 < 1000 ^ 1000 := by decide +kernel
    exact ⟨by omega, by omega⟩
  have HV := Lib.hid (hv.below hB0)
  have hx1 : (w.alloc (.cells #[.bool nb, .slice np nl nc] 28)).cell? ⟨w.heap.size, 0, none⟩ = some (.bool nb) := by simp [go_sem]
  have hx2 : (w.alloc (.cells #[.bool nb, .slice np nl nc] 28)).cell? ⟨w.heap.size, 1, none⟩ = some (.slice np nl nc) := by simp [go_sem]
  have hX := Lib.hid (And.intro hx1 hx2)
  have hs0 : w.heap.size < (w.alloc (.cells #[.bool nb, .slice np nl nc] 28)).heap.size := by simp
  have hB := Lib.hid (And.intro hB0 hs0)
  have H0 := Lib.hid h0
  have HS := Lib.hid hsz
  clear hv hB0 hx1 hx2 hs0 h1 h0 hsz
  go_enter Tryd.func24, Tryd.ntmps24
  go_wp2_with fail
  generalize w.alloc (.cells #[.bool nb, .slice np nl nc] 28) = W at *
  refine (nat_any 1 _ (by decide) (by decide)).mono ?_; rintro e w1 ⟨q, rfl, hq, hb1⟩
  obtain ⟨qb, qp, ql, qc, rfl⟩ := hq.shape
  have hb2 := below_one w1 (.cells #[.bool qb, .slice qp ql qc] 28)
  have hb12 := hb1.trans (hb2.mono hb1.size)
  have hXP := Lib.hid (show w.heap.size ≠ w1.heap.size by have := hB.out.2; have := hb1.size; omega)
  have hR0 : BitsRel w w.heap.size w1.heap.size (.bool nb) (.slice np nl nc) z 0 (w1.alloc (.cells #[.bool qb, .slice qp ql qc] 28)) :=
    ⟨⟨_, _, ⟨by simp [go_sem], by simp [go_sem]⟩, hq.below hb2⟩, ⟨cell_later hb12 hX.out.1, cell_later hb12 hX.out.2⟩, ⟨hB.out.1.trans (hb12.mono hB.out.1.size), by have := hB.out.1.size; have := hb1.size; omega, _, _, heap_alloc_new w1 _⟩, HV.out.below hb12⟩
  have hR0 := Lib.hid hR0
  clear hq hb1 hb2 hb12 HV hX hB
  go_wp2_with fail
  generalize w1.heap.size = P at *
  go_loopw [3] (fun i wr => ∃ n : Nat, n ≤ bitsZ z ∧ i = .int .i64 n ∧ Hid (BitsRel w w.heap.size P (.bool nb) (.slice np nl nc) z n wr)) (fun i _ => bitsZ z - (intOf i).toNat)
  case atStart => exact ⟨0, Nat.zero_le _, rfl, hR0⟩
  case round =>
    obtain ⟨n, hn, rfl, hR⟩ := hrel
    clear hR0
    obtain ⟨⟨u, t, ⟨f1, f2⟩, hp⟩, ⟨f3, f4⟩, hk, hz⟩ := hR.out
    obtain ⟨pb, pp, pl, pc, e⟩ := hp.shape
    simp only [Value.agg.injEq, Array.mk.injEq, List.cons.injEq, and_true] at e
    obtain ⟨rfl, rfl⟩ := e
    have HC := Lib.hid (num_cmp _ _ _ _ 1000 _ hp hz (sized_pow2 (by omega)) HS.out (by decide))
    have HAd := Lib.hid (fun w3 (hb : Below _ _ w3) => num_add _ _ _ _ 1000 w3 (hp.below hb) (hp.below hb) (sized_pow2 (by omega)) (sized_pow2 (by omega)) (by decide))
    have hk := Lib.hid hk
    clear hp hz
    by_cases hle : (2 : Int) ^ n ≤ z
    · have hc : cmpI (2 ^ n) z ≤ 0 := cmpI_le.2 hle
      have hm := bits_more hle
      generalize cmpI (2 ^ n) z = cm at *
      go_wp2_with fail
      refine (HC.out).mono ?_; rintro e w3 ⟨rfl, hb3⟩
      have f1 := cell_later hb3 f1
      have f2 := cell_later hb3 f2
      have HA3 := Lib.hid (HAd.out w3 hb3)
      have hb3 := Lib.hid hb3
      clear HAd HC
      go_wp2_with fail
      refine (HA3.out).mono ?_; rintro e w4 ⟨r, rfl, hr, hb4⟩
      obtain ⟨rb, rp, rl, rc, rfl⟩ := hr.shape
      obtain ⟨⟨x1, g1⟩, ⟨x2, g2⟩, g3, g4⟩ := ((hk.out.call hb3.out).call hb4).cells
      rw [show (2 : Int) ^ n + 2 ^ n = 2 ^ (n + 1) by rw [Int.pow_succ]; omega] at hr
      have hN := Lib.hid (hR.out.next hXP.out hb3.out hb4 hr)
      have hwr : IntKind.i64.wrap ((n : Int) + 1) = (n : Int) + 1 := by rw [IntKind.wrap_i64]; omega
      clear hr hb4 hb3 HA3 f1 f2 f3 f4 hk hR
      go_wp2_with fail
      go_roundw
      case rel => exact ⟨n + 1, by omega, by go_num, hN⟩
      case measure => simp [intOf]; omega
    · have hc : ¬ cmpI (2 ^ n) z ≤ 0 := fun h => hle (cmpI_le.1 h)
      have hst := bits_stop H0.out hn hle
      generalize cmpI (2 ^ n) z = cm at *
      have hE := Lib.hid hk.out.1
      go_wp2_with fail
      refine (HC.out).mono ?_; rintro e w3 ⟨rfl, hb3⟩
      have hE := hE.out.trans (hb3.mono hE.out.size)
      clear HAd HC
      go_wp2_with fail
      go_ret
      exact ⟨rfl, hE⟩
end Go.Proofs.YtpfcacjcikhamaaDoor
