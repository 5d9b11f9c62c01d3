/- Layer 16: heap.Init and heap.Pop on the queue. -/
import Derived.Test.YtgiekjckfgdfnaaToue
namespace Go.Proofs.Ytgiekjckfgdfnaa
set_option maxRecDepth 100000
open Go.RowKit
set_option linter.unusedVariables false
theorem heap_half (lt : Nat → Nat → Bool) (L : List Nat) (n : Nat) : HeapF lt L n (n / 2) := fun p c hp hc hn => by
  have hc2 : c = 2 * p + 1 ∨ c = 2 * p + 2 := hc
  omega
set_option maxHeartbeats 16000000 in
theorem init_any (w0 w : World) (M Q V : Nat) (v : Value) (Ls : List (List Int)) (a : Option Addr) (cap : Nat) (L : List Nat) (h : QSt w0 w M Q V v Ls a cap L) (hbt : ∀ l ∈ Ls, Bt l) :
    Calls Try.prog 11 #[qI Q] w fun e w' => (∃ r, e = .returned r) ∧ ∃ L', L'.Perm L ∧ HeapF (ltB fun k => Ls.getD k []) L' L.length 0 ∧ QSt w0 w' M Q V v Ls a cap L' ∧ Touch Q V w w' := by
  have HLn := Lib.hid (qlen_any w0 w M Q V v Ls a cap L h)
  have HDn := Lib.hid (fun w1 L1 i0 n (h1 : QSt w0 w1 M Q V v Ls a cap L1) (hn : n ≤ L1.length) (hi0 : i0 ≤ 1000) (hp : HeapF (ltB fun k => Ls.getD k []) L1 n (i0 + 1)) => down_any w0 w1 M Q V v Ls a cap L1 i0 n h1 hbt hn hi0 hp)
  have H0 := Lib.hid h
  have hfew := h.q.few
  clear h hbt
  generalize hlt : (ltB fun k => Ls.getD k []) = lt at *
  clear hlt
  go_enter Try.func11, Try.ntmps11
  go_wp2_with (simp only [meth_len])
  refine HLn.out.mono ?_; rintro e w1 ⟨rfl, rfl⟩
  have e1 : wrap64 (((L.length : Int).tdiv 2) - 1) = ((L.length / 2 : Nat) : Int) - 1 := by
    have : (L.length : Int).tdiv 2 = ((L.length / 2 : Nat) : Int) := by rw [Int.tdiv_eq_ediv_of_nonneg (by omega)]; rfl
    rw [this, wrap64_in (by omega) (by omega)]
  clear HLn
  go_wp2_with fail
  go_loopw [3] (fun iv wr => ∃ (m : Nat) (L1 : List Nat), m ≤ L.length / 2 ∧ iv = .int .i64 ((m : Int) - 1) ∧ Hid (HeapF lt L1 L.length m ∧ L1.Perm L) ∧ Hid (QSt w0 wr M Q V v Ls a cap L1) ∧ Hid (Touch Q V w1 wr)) (fun iv _ => (intOf iv + 1).toNat)
  case atStart => exact ⟨L.length / 2, L, Nat.le_refl _, by first | rfl | (congr 1; omega) | simp, Lib.hid ⟨heap_half lt L L.length, List.Perm.refl _⟩, H0, Lib.hid (Touch.refl _ _ _)⟩
  case round =>
    obtain ⟨m, L1, hm, rfl, HJ, HQ, HT⟩ := hrel
    by_cases h0 : m = 0
    · subst h0
      have hn : ¬ (0 : Int) ≤ ((0 : Nat) : Int) - 1 := by omega
      go_wp2_with fail
      refine bodyPost_end (results_none rfl _ _ _) rfl ?_
      exact ⟨⟨_, rfl⟩, L1, HJ.out.2, HJ.out.1, HQ.out, HT.out⟩
    · have hp : (0 : Int) ≤ (m : Int) - 1 := by omega
      have hl1 : L1.length = L.length := HJ.out.2.length_eq
      have HD := Lib.hid (HDn.out wr L1 (m - 1) L.length HQ.out (by omega) (by omega) (by rw [show m - 1 + 1 = m by omega]; exact HJ.out.1))
      rw [show ((m - 1 : Nat) : Int) = (m : Int) - 1 by omega] at HD
      go_wp2_with fail
      refine HD.out.mono ?_; rintro e w2 ⟨⟨r, rfl⟩, L2, hd, hq, ht⟩
      have HD2 := Lib.hid hd
      have HQ2 := Lib.hid hq
      have HT2 := Lib.hid (HT.out.trans ht)
      clear hd hq ht HD HQ HT
      go_wp2_with fail
      go_roundw
      case rel => exact ⟨m - 1, L2, by omega, by go_num, Lib.hid ⟨HD2.out.2.1, HD2.out.1.trans HJ.out.2⟩, HQ2, HT2⟩
      case measure => simp [intOf]; omega
set_option maxHeartbeats 16000000 in
theorem hpop_any (w0 w : World) (M Q V : Nat) (v : Value) (Ls : List (List Int)) (a : Option Addr) (cap : Nat) (L : List Nat) (h : QSt w0 w M Q V v Ls a cap L) (hbt : ∀ l ∈ Ls, Bt l) (h0 : 0 < L.length) (hp : HeapF (ltB fun k => Ls.getD k []) L L.length 0) :
    Calls Try.prog 12 #[qI Q] w fun e w' => e = .returned (.iface 3 (.int .i64 (hg L 0))) ∧ ∃ L2, DownP (ltB fun k => Ls.getD k []) (swapH L 0 (L.length - 1)) L2 (L.length - 1) 0 ∧ QSt w0 w' M Q V v Ls a cap (L2.take (L.length - 1)) ∧ Touch Q V w w' := by
  have HLn := Lib.hid (qlen_any w0 w M Q V v Ls a cap L h)
  have HSw := Lib.hid (qswap_any w0 w M Q V v Ls a cap L 0 (L.length - 1) h h0 (by omega))
  have HDn := Lib.hid (fun w1 (h1 : QSt w0 w1 M Q V v Ls a cap (swapH L 0 (L.length - 1))) => down_any w0 w1 M Q V v Ls a cap (swapH L 0 (L.length - 1)) 0 (L.length - 1) h1 hbt (by rw [swapH_len]; omega) (by omega) (heap_first hp h0))
  have HPo := Lib.hid (fun w1 L2 (h1 : QSt w0 w1 M Q V v Ls a cap L2) (h0 : 0 < L2.length) => qpop_any w0 w1 M Q V v Ls a cap L2 h1 h0)
  have H0 := Lib.hid h
  have hfew := h.q.few
  have HL0 := Lib.hid h0
  have hpos := h0
  have e0 : ((0 : Nat) : Int) = 0 := rfl
  have e1 : ((L.length - 1 : Nat) : Int) = (L.length : Int) - 1 := by omega
  rw [e0, e1] at HSw
  simp only [e0, e1] at HDn
  clear h hbt hp h0 e0 e1
  generalize hlt : (ltB fun k => Ls.getD k []) = lt at *
  clear hlt
  go_enter Try.func12, Try.ntmps12
  go_wp2_with (simp only [meth_len])
  refine HLn.out.mono ?_; rintro e w1 ⟨rfl, rfl⟩
  clear HLn
  go_wp2_with (simp only [meth_swap])
  refine HSw.out.mono ?_; rintro e w2 ⟨rfl, hq, ht⟩
  have HQ2 := Lib.hid (H0.out.touch hq ht fun x hx => H0.out.s x ((swapH_perm HL0.out (by have := HL0.out; omega)).mem_iff.1 hx))
  have HT2 := Lib.hid ht
  clear hq ht HSw
  have HD := Lib.hid (HDn.out w2 HQ2.out)
  go_wp2_with fail
  refine HD.out.mono ?_; rintro e w3 ⟨⟨r, rfl⟩, L2, hd, hq, ht⟩
  have HD2 := Lib.hid hd
  have HQ3 := Lib.hid hq
  have HT3 := Lib.hid (HT2.out.trans ht)
  have hl2 : L2.length = L.length := by rw [hd.1.length_eq, swapH_len]
  have hx : hg L2 (L.length - 1) = hg L 0 := by
    rw [hd.2.2 _ (Nat.le_refl _), swapH_get HL0.out (by have := HL0.out; omega), if_pos rfl]
  have HP := Lib.hid (HPo.out w3 L2 hq (by have := HL0.out; omega))
  rw [hl2, hx] at HP
  clear hd hq ht HD HDn HQ2 HT2 HPo hx
  go_wp2_with (simp only [meth_pop])
  refine HP.out.mono ?_; rintro e w4 ⟨rfl, hq, ht⟩
  have HQ4 := Lib.hid (HQ3.out.touch hq ht fun x hx => HQ3.out.s x (List.mem_of_mem_take hx))
  have HT4 := Lib.hid (HT3.out.trans ht)
  clear hq ht HP
  go_wp2_with fail
  go_ret
  exact ⟨rfl, L2, HD2.out, HQ4.out, HT4.out⟩
end Go.Proofs.Ytgiekjckfgdfnaa
