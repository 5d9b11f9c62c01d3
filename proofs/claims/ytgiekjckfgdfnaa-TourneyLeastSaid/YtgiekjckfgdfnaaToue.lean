/- Layer 16: heap.down on the queue. -/
import Derived.Test.YtgiekjckfgdfnaaToud
namespace Go.Proofs.Ytgiekjckfgdfnaa
set_option maxRecDepth 100000
open Go.RowKit
set_option linter.unusedVariables false
abbrev qI (Q : Nat) : Value := .iface 30 (.pointer (some ⟨Q, 0, none⟩))
theorem meth_less (n Q : Nat) (w : World) : (method (n + 1) 30 (.pointer (some ⟨Q, 0, none⟩)) "Less").run Try.prog w = .ok (34, .pointer (some ⟨Q, 0, none⟩)) w := by kernel_rfl
theorem meth_swap (n Q : Nat) (w : World) : (method (n + 1) 30 (.pointer (some ⟨Q, 0, none⟩)) "Swap").run Try.prog w = .ok (36, .pointer (some ⟨Q, 0, none⟩)) w := by kernel_rfl
theorem meth_len (n Q : Nat) (w : World) : (method (n + 1) 30 (.pointer (some ⟨Q, 0, none⟩)) "Len").run Try.prog w = .ok (33, .pointer (some ⟨Q, 0, none⟩)) w := by kernel_rfl
theorem meth_pop (n Q : Nat) (w : World) : (method (n + 1) 30 (.pointer (some ⟨Q, 0, none⟩)) "Pop").run Try.prog w = .ok (35, .pointer (some ⟨Q, 0, none⟩)) w := by kernel_rfl
set_option maxHeartbeats 16000000 in
theorem down_any (w0 w : World) (M Q V : Nat) (v : Value) (Ls : List (List Int)) (a : Option Addr) (cap : Nat) (L : List Nat) (i0 n : Nat) (h : QSt w0 w M Q V v Ls a cap L) (hbt : ∀ l ∈ Ls, Bt l) (hn : n ≤ L.length) (hi0 : i0 ≤ 1000) (hp : HeapF (ltB fun k => Ls.getD k []) L n (i0 + 1)) :
    Calls Try.prog 15 #[qI Q, .int .i64 i0, .int .i64 n] w fun e w' => (∃ r, e = .returned r) ∧ ∃ L', DownP (ltB fun k => Ls.getD k []) L L' n i0 ∧ QSt w0 w' M Q V v Ls a cap L' ∧ Touch Q V w w' := by
  have HO := Lib.hid (ltB_ord fun k => Ls.getD k [])
  have HLs := Lib.hid (fun w1 L1 i j (h1 : QSt w0 w1 M Q V v Ls a cap L1) (hi : i < L1.length) (hj : j < L1.length) => qless_any w0 w1 M Q V v Ls a cap L1 i j h1 hbt hi hj)
  have HSw := Lib.hid (fun w1 L1 i j (h1 : QSt w0 w1 M Q V v Ls a cap L1) (hi : i < L1.length) (hj : j < L1.length) => qswap_any w0 w1 M Q V v Ls a cap L1 i j h1 hi hj)
  have H0 := Lib.hid h
  have HP := Lib.hid hp
  have HN := Lib.hid hn
  have hfew := h.q.few
  clear h hp hbt
  generalize hlt : (ltB fun k => Ls.getD k []) = lt at *
  clear hlt
  go_enter Try.func15, Try.ntmps15
  go_wp2_with fail
  go_loopw [7] (fun iv wr => ∃ (k : Nat) (L1 : List Nat), i0 ≤ k ∧ (k < n ∨ k = i0) ∧ iv = .int .i64 k ∧ Hid (HeapB lt L1 n i0 k ∧ L1.Perm L ∧ ∀ p, n ≤ p → hg L1 p = hg L p) ∧ Hid (QSt w0 wr M Q V v Ls a cap L1) ∧ Hid (Touch Q V w wr)) (fun iv _ => n - (intOf iv).toNat)
  case atStart => exact ⟨i0, L, Nat.le_refl _, .inr rfl, rfl, Lib.hid ⟨heap_start HP.out, List.Perm.refl _, fun p _ => rfl⟩, H0, Lib.hid (Touch.refl _ _ _)⟩
  case round =>
    obtain ⟨k, L1, hk0, hkn, rfl, HJ, HQ, HT⟩ := hrel
    have e1 : wrap64 (2 * (k : Int)) = ((2 * k : Nat) : Int) := by rw [wrap64_in (by omega) (by omega)]; omega
    have e2 : wrap64 (((2 * k : Nat) : Int) + 1) = ((2 * k + 1 : Nat) : Int) := by rw [wrap64_in (by omega) (by omega)]; omega
    have e3 : wrap64 (((2 * k + 1 : Nat) : Int) + 1) = ((2 * k + 2 : Nat) : Int) := by rw [wrap64_in (by omega) (by omega)]; omega
    by_cases hj1 : n ≤ 2 * k + 1
    · have c1 : (n : Int) ≤ ((2 * k + 1 : Nat) : Int) := by omega
      have HD := Lib.hid (show DownP lt L L1 n i0 from ⟨HJ.out.2.1, heap_leaf HJ.out.1 hj1, HJ.out.2.2⟩)
      clear HJ
      go_wp2_with fail
      go_ret
      exact ⟨⟨_, rfl⟩, L1, HD.out, HQ.out, HT.out⟩
    · have hkn2 : k < n := by omega
      have c1 : ((2 * k + 1 : Nat) : Int) < (n : Int) := by omega
      have e2' : ((2 * k + 1 : Nat) : Int) = 2 * (k : Int) + 1 := by omega
      have e3' : ((2 * k + 2 : Nat) : Int) = 2 * (k : Int) + 2 := by omega
      have hl1 : L1.length = L.length := HJ.out.2.1.length_eq
      have hnn := HN.out
      have HQ2 := HQ
      have HT2 := HT
      by_cases hj2 : 2 * k + 2 < n
      · have c2 : ((2 * k + 2 : Nat) : Int) < (n : Int) := by omega
        have HLa := Lib.hid (HLs.out wr L1 (2 * k + 2) (2 * k + 1) HQ.out (by omega) (by omega))
        rw [show ((2 * k + 2 : Nat) : Int) = 2 * (k : Int) + 1 + 1 by omega, show ((2 * k + 1 : Nat) : Int) = 2 * (k : Int) + 1 by omega] at HLa
        generalize hl0 : lt (hg L1 (2 * k + 2)) (hg L1 (2 * k + 1)) = r0 at HLa
        have HL0 := Lib.hid hl0
        clear hl0 HQ2 HT2
        go_wp2_with (simp only [meth_less])
        refine HLa.out.mono ?_; rintro e w2 ⟨rfl, hd⟩
        have HQ2 := Lib.hid (HQ.out.keep hd.below)
        have HT2 := Lib.hid (HT.out.trans (touch_of hd.below))
        clear hd HLa HQ HT
        cases r0 with
        | true =>
          have HM := Lib.hid (show ∀ c, Child k c → c < n → lt (hg L1 c) (hg L1 (2 * k + 2)) = false from fun c hc hcn => by
            have hc2 : c = 2 * k + 1 ∨ c = 2 * k + 2 := hc
            rcases hc2 with rfl | rfl
            · exact HO.out.asy _ _ HL0.out
            · exact irr HO.out _)
          clear HL0
          have HLk := Lib.hid (HLs.out w2 L1 (2 * k + 2) k HQ2.out (by omega) (by omega))
          rw [show ((2 * k + 2 : Nat) : Int) = 2 * (k : Int) + 1 + 1 by omega] at HLk
          generalize hl2 : lt (hg L1 (2 * k + 2)) (hg L1 k) = r at HLk
          have HL2 := Lib.hid hl2
          clear hl2
          go_wp2_with (simp only [meth_less])
          refine HLk.out.mono ?_; rintro e w3 ⟨rfl, hd⟩
          have HQ3 := Lib.hid (HQ2.out.keep hd.below)
          have HT3 := Lib.hid (HT2.out.trans (touch_of hd.below))
          clear hd HLk HQ2 HT2
          cases r with
          | false =>
            go_wp2_with fail
            go_ret
            exact ⟨⟨_, rfl⟩, L1, ⟨HJ.out.2.1, heap_stop HO.out HJ.out.1 HM.out HL2.out, HJ.out.2.2⟩, HQ3.out, HT3.out⟩
          | true =>
            have HSk := Lib.hid (HSw.out w3 L1 k (2 * k + 2) HQ3.out (by omega) (by omega))
            rw [show ((2 * k + 2 : Nat) : Int) = 2 * (k : Int) + 1 + 1 by omega] at HSk
            go_wp2_with (simp only [meth_swap])
            refine HSk.out.mono ?_; rintro e w4 ⟨rfl, hq, ht⟩
            have HN2 := Lib.hid (show HeapB lt (swapH L1 k (2 * k + 2)) n i0 (2 * k + 2) ∧ (swapH L1 k (2 * k + 2)).Perm L ∧ ∀ p, n ≤ p → hg (swapH L1 k (2 * k + 2)) p = hg L p from ⟨heap_step HO.out HJ.out.1 hk0 (by unfold Child; omega) (by omega) (by omega) HM.out HL2.out, (swapH_perm (by omega) (by omega)).trans HJ.out.2.1, fun p hp => by rw [swapH_get (by omega) (by omega), if_neg (by omega), if_neg (by omega)]; exact HJ.out.2.2 p hp⟩)
            have HQ4 := Lib.hid (HQ3.out.touch hq ht fun x hx => HQ3.out.s x ((swapH_perm (by omega) (by omega)).mem_iff.1 hx))
            have HT4 := Lib.hid (HT3.out.trans ht)
            clear hq ht HSk HQ3 HT3 HM HL2
            go_wp2_with fail
            go_roundw
            case rel => exact ⟨2 * k + 2, swapH L1 k (2 * k + 2), by omega, .inl (by omega), by rw [show ((2 * k + 2 : Nat) : Int) = 2 * (k : Int) + 1 + 1 by omega], HN2, HQ4, HT4⟩
            case measure => simp [intOf]; omega
        | false =>
          have HM := Lib.hid (show ∀ c, Child k c → c < n → lt (hg L1 c) (hg L1 (2 * k + 1)) = false from fun c hc hcn => by
            have hc2 : c = 2 * k + 1 ∨ c = 2 * k + 2 := hc
            rcases hc2 with rfl | rfl
            · exact irr HO.out _
            · exact HL0.out)
          clear HL0
          have HLk := Lib.hid (HLs.out w2 L1 (2 * k + 1) k HQ2.out (by omega) (by omega))
          rw [show ((2 * k + 1 : Nat) : Int) = 2 * (k : Int) + 1 by omega] at HLk
          generalize hl2 : lt (hg L1 (2 * k + 1)) (hg L1 k) = r at HLk
          have HL2 := Lib.hid hl2
          clear hl2
          go_wp2_with (simp only [meth_less])
          refine HLk.out.mono ?_; rintro e w3 ⟨rfl, hd⟩
          have HQ3 := Lib.hid (HQ2.out.keep hd.below)
          have HT3 := Lib.hid (HT2.out.trans (touch_of hd.below))
          clear hd HLk HQ2 HT2
          cases r with
          | false =>
            go_wp2_with fail
            go_ret
            exact ⟨⟨_, rfl⟩, L1, ⟨HJ.out.2.1, heap_stop HO.out HJ.out.1 HM.out HL2.out, HJ.out.2.2⟩, HQ3.out, HT3.out⟩
          | true =>
            have HSk := Lib.hid (HSw.out w3 L1 k (2 * k + 1) HQ3.out (by omega) (by omega))
            rw [show ((2 * k + 1 : Nat) : Int) = 2 * (k : Int) + 1 by omega] at HSk
            go_wp2_with (simp only [meth_swap])
            refine HSk.out.mono ?_; rintro e w4 ⟨rfl, hq, ht⟩
            have HN2 := Lib.hid (show HeapB lt (swapH L1 k (2 * k + 1)) n i0 (2 * k + 1) ∧ (swapH L1 k (2 * k + 1)).Perm L ∧ ∀ p, n ≤ p → hg (swapH L1 k (2 * k + 1)) p = hg L p from ⟨heap_step HO.out HJ.out.1 hk0 (by unfold Child; omega) (by omega) (by omega) HM.out HL2.out, (swapH_perm (by omega) (by omega)).trans HJ.out.2.1, fun p hp => by rw [swapH_get (by omega) (by omega), if_neg (by omega), if_neg (by omega)]; exact HJ.out.2.2 p hp⟩)
            have HQ4 := Lib.hid (HQ3.out.touch hq ht fun x hx => HQ3.out.s x ((swapH_perm (by omega) (by omega)).mem_iff.1 hx))
            have HT4 := Lib.hid (HT3.out.trans ht)
            clear hq ht HSk HQ3 HT3 HM HL2
            go_wp2_with fail
            go_roundw
            case rel => exact ⟨2 * k + 1, swapH L1 k (2 * k + 1), by omega, .inl (by omega), by rw [show ((2 * k + 1 : Nat) : Int) = 2 * (k : Int) + 1 by omega], HN2, HQ4, HT4⟩
            case measure => simp [intOf]; omega
      · have c2 : decide ((2 * (k : Int) + 1 + 1) < (n : Int)) = false := decide_eq_false (by omega)
        have HM := Lib.hid (show ∀ c, Child k c → c < n → lt (hg L1 c) (hg L1 (2 * k + 1)) = false from fun c hc hcn => by
          have hc2 : c = 2 * k + 1 ∨ c = 2 * k + 2 := hc
          rcases hc2 with rfl | rfl
          · exact irr HO.out _
          · omega)
        have HLk := Lib.hid (HLs.out wr L1 (2 * k + 1) k HQ2.out (by omega) (by omega))
        rw [show ((2 * k + 1 : Nat) : Int) = 2 * (k : Int) + 1 by omega] at HLk
        generalize hl2 : lt (hg L1 (2 * k + 1)) (hg L1 k) = r at HLk
        have HL2 := Lib.hid hl2
        clear hl2
        go_wp2_with (simp only [meth_less])
        refine HLk.out.mono ?_; rintro e w3 ⟨rfl, hd⟩
        have HQ3 := Lib.hid (HQ2.out.keep hd.below)
        have HT3 := Lib.hid (HT2.out.trans (touch_of hd.below))
        clear hd HLk HQ2 HT2
        cases r with
        | false =>
          go_wp2_with fail
          go_ret
          exact ⟨⟨_, rfl⟩, L1, ⟨HJ.out.2.1, heap_stop HO.out HJ.out.1 HM.out HL2.out, HJ.out.2.2⟩, HQ3.out, HT3.out⟩
        | true =>
          have HSk := Lib.hid (HSw.out w3 L1 k (2 * k + 1) HQ3.out (by omega) (by omega))
          rw [show ((2 * k + 1 : Nat) : Int) = 2 * (k : Int) + 1 by omega] at HSk
          go_wp2_with (simp only [meth_swap])
          refine HSk.out.mono ?_; rintro e w4 ⟨rfl, hq, ht⟩
          have HN2 := Lib.hid (show HeapB lt (swapH L1 k (2 * k + 1)) n i0 (2 * k + 1) ∧ (swapH L1 k (2 * k + 1)).Perm L ∧ ∀ p, n ≤ p → hg (swapH L1 k (2 * k + 1)) p = hg L p from ⟨heap_step HO.out HJ.out.1 hk0 (by unfold Child; omega) (by omega) (by omega) HM.out HL2.out, (swapH_perm (by omega) (by omega)).trans HJ.out.2.1, fun p hp => by rw [swapH_get (by omega) (by omega), if_neg (by omega), if_neg (by omega)]; exact HJ.out.2.2 p hp⟩)
          have HQ4 := Lib.hid (HQ3.out.touch hq ht fun x hx => HQ3.out.s x ((swapH_perm (by omega) (by omega)).mem_iff.1 hx))
          have HT4 := Lib.hid (HT3.out.trans ht)
          clear hq ht HSk HQ3 HT3 HM HL2
          go_wp2_with fail
          go_roundw
          case rel => exact ⟨2 * k + 1, swapH L1 k (2 * k + 1), by omega, .inl (by omega), by rw [show ((2 * k + 1 : Nat) : Int) = 2 * (k : Int) + 1 by omega], HN2, HQ4, HT4⟩
          case measure => simp [intOf]; omega
end Go.Proofs.Ytgiekjckfgdfnaa
