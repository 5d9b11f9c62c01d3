/- The reference's Is. -/
import Derived.Test.YtdlebcjkokabjaaNamc
namespace Go.Proofs.Ytdlebcjkokabjaa
set_option maxRecDepth 100000
open Go.RowKit
set_option linter.unusedVariables false
theorem ok_of {s : ByteArray} {k : Nat} {c : Int} (h : byt s k = c) : okAt s k = (letB c || (decide (0 < k) && (digB c || decide (c = 95)))) := by rw [← h]; rfl
set_option maxHeartbeats 2000000 in
theorem ris_any (s : ByteArray) (w : World) (hs : s.size ≤ maxLen) :
    Calls Try.prog 25 #[.string s] w fun e w' => e = .returned (.bool (nameB s)) ∧ Below w.heap.size w w' := by
  by_cases h1 : s.size < 1
  · rw [name_size (by omega)]
    have h0 : (s.size : Int) < 1 := by omega
    go_enter Try.func25, Try.ntmps25
    go_wp2
    go_ret
    exact ⟨rfl, Below.refl _ _⟩
  · by_cases h2 : 16 < s.size
    · rw [name_size (by omega)]
      have h0 : ¬ (s.size : Int) < 1 := by omega
      have h2' : (16 : Int) < (s.size : Int) := by omega
      go_enter Try.func25, Try.ntmps25
      go_wp2
      go_ret
      exact ⟨rfl, Below.refl _ _⟩
    · have HG := Lib.hid (@name_good s (by omega))
      have HWd := Lib.hid (@name_word s)
      have H := Lib.hid (rwords0_any w)
      have HP := Lib.hid (fun v w' (h : Strs w' v wordsL) => rplace_any v wordsL s w' h)
      have HBad := Lib.hid (fun j => @name_bad s j)
      have h0 : ¬ (s.size : Int) < 1 := by omega
      have h2' : (s.size : Int) ≤ 16 := by omega
      have h3 : ¬ (16 : Int) < (s.size : Int) := by omega
      unfold NewList at H
      generalize wordsL = l at *
      generalize placeL l s = r at *
      go_enter Try.func25, Try.ntmps25
      go_wp2_with fail
      refine (H.out).mono ?_; rintro e w1 ⟨v, rfl, hs, hb⟩
      have HC := Lib.hid (HP.out _ _ hs)
      have HBB := Lib.hid hb
      obtain ⟨a, cap, rfl, -⟩ := hs
      clear hb HP H
      go_wp2_with fail
      refine (HC.out).mono ?_; rintro e w2 ⟨rfl, rfl⟩
      by_cases hr : 0 ≤ r
      · have HR := Lib.hid (HWd.out hr)
        go_wp2_with fail
        go_ret
        rw [HR.out]
        exact ⟨rfl, HBB.out⟩
      · have hr1 : ¬ 0 ≤ r := hr
        have hr2 := Lib.hid (show decide (r < 0) = true from decide_eq_true (by omega))
        rw [hr2.out] at HG
        go_wp2_with fail
        go_loopw [3] (fun i wr => ∃ k : Nat, k ≤ s.size ∧ i = .int .i64 k ∧ w1 = wr ∧ Hid (∀ j, j < k → okAt s j = true)) (fun i _ => s.size - (intOf i).toNat)
        case atStart => exact ⟨0, Nat.zero_le _, rfl, rfl, Lib.hid (fun j hj => by omega)⟩
        case round =>
          obtain ⟨k, hk, rfl, rfl, HB⟩ := hrel
          by_cases hlt : k < s.size
          · have HN := Lib.hid (fun (q : okAt s k = true) j (hj : j < k + 1) => if e : j = k then e ▸ q else HB.out j (by omega))
            have HF := Lib.hid (fun (q : okAt s k = false) => HBad.out k hlt q)
            have HY := Lib.hid (byt_get hlt)
            have HR := byt_range s k
            have HE := Lib.hid (@ok_of s k _ rfl)
            generalize byt s k = c at *
            by_cases p1 : 97 ≤ c ∧ c ≤ 122
            · have f1 : (97 : Int) ≤ (s[k].toNat : Int) := by rw [HY.out]; omega
              have f2 : (s[k].toNat : Int) ≤ 122 := by rw [HY.out]; omega
              have f3 : (48 : Int) ≤ (s[k].toNat : Int) := by omega
              have f4 : ¬ (s[k].toNat : Int) ≤ 57 := by omega
              have f5 : ((s[k].toNat : Int) == 95) = false := by rw [HY.out]; simp; omega
              have HN2 := Lib.hid (HN.out (by rw [HE.out, show letB c = true from decide_eq_true p1]; rfl))
              go_wp2_with fail
              go_roundw
              case rel => exact ⟨k + 1, by omega, by go_num, by trivial, HN2⟩
              case measure => simp [intOf]; omega
            · have hl : letB c = false := decide_eq_false p1
              rw [hl] at HE
              clear hl
              by_cases q : (48 ≤ c ∧ c ≤ 57) ∨ c = 95
              · have HQ := Lib.hid (show (digB c || decide (c = 95)) = true from by
                  rcases q with q | q
                  · rw [show digB c = true from decide_eq_true q]; rfl
                  · rw [decide_eq_true q]; simp)
                have f1 : ¬ (97 : Int) ≤ (s[k].toNat : Int) := by rw [HY.out]; omega
                have f3 : (48 : Int) ≤ (s[k].toNat : Int) := by rw [HY.out]; omega
                by_cases hz : k = 0
                · have HF2 := Lib.hid (HF.out (by rw [HE.out, decide_eq_false (by omega)]; rfl))
                  have f6 : ((k : Int) == 0) = true := by simp; omega
                  rcases q with q | q
                  · have f4 : (s[k].toNat : Int) ≤ 57 := by rw [HY.out]; omega
                    clear q hz
                    go_wp2_with fail
                    go_ret
                    rw [HF2.out]
                    exact ⟨rfl, HBB.out⟩
                  · have f4 : ¬ (s[k].toNat : Int) ≤ 57 := by rw [HY.out]; omega
                    have f5 : ((s[k].toNat : Int) == 95) = true := by rw [HY.out]; simp; omega
                    clear q hz
                    go_wp2_with fail
                    go_ret
                    rw [HF2.out]
                    exact ⟨rfl, HBB.out⟩
                · have HN2 := Lib.hid (HN.out (by rw [HE.out, decide_eq_true (by omega), HQ.out]; rfl))
                  have f6 : ((k : Int) == 0) = false := by simp; omega
                  rcases q with q | q
                  · have f4 : (s[k].toNat : Int) ≤ 57 := by rw [HY.out]; omega
                    clear q
                    go_wp2_with fail
                    go_roundw
                    case rel => exact ⟨k + 1, by omega, by go_num, by trivial, HN2⟩
                    case measure => simp [intOf]; omega
                  · have f4 : ¬ (s[k].toNat : Int) ≤ 57 := by rw [HY.out]; omega
                    have f5 : ((s[k].toNat : Int) == 95) = true := by rw [HY.out]; simp; omega
                    clear q
                    go_wp2_with fail
                    go_roundw
                    case rel => exact ⟨k + 1, by omega, by go_num, by trivial, HN2⟩
                    case measure => simp [intOf]; omega
              · have HF2 := Lib.hid (HF.out (by rw [HE.out, show digB c = false from decide_eq_false (fun h => q (.inl h)), decide_eq_false (fun h => q (.inr h))]; simp))
                have f5 : ((s[k].toNat : Int) == 95) = false := by rw [HY.out]; simp; omega
                by_cases g1 : 97 ≤ c
                · have f1 : (97 : Int) ≤ (s[k].toNat : Int) := by rw [HY.out]; omega
                  have f2 : ¬ (s[k].toNat : Int) ≤ 122 := by rw [HY.out]; omega
                  have f3 : (48 : Int) ≤ (s[k].toNat : Int) := by omega
                  have f4 : ¬ (s[k].toNat : Int) ≤ 57 := by omega
                  go_wp2_with fail
                  go_ret
                  rw [HF2.out]
                  exact ⟨rfl, HBB.out⟩
                · have f1 : ¬ (97 : Int) ≤ (s[k].toNat : Int) := by rw [HY.out]; omega
                  by_cases g2 : 48 ≤ c
                  · have f3 : (48 : Int) ≤ (s[k].toNat : Int) := by rw [HY.out]; omega
                    have f4 : ¬ (s[k].toNat : Int) ≤ 57 := by rw [HY.out]; omega
                    go_wp2_with fail
                    go_ret
                    rw [HF2.out]
                    exact ⟨rfl, HBB.out⟩
                  · have f3 : ¬ (48 : Int) ≤ (s[k].toNat : Int) := by rw [HY.out]; omega
                    go_wp2_with fail
                    go_ret
                    rw [HF2.out]
                    exact ⟨rfl, HBB.out⟩
          · have : k = s.size := by omega
            subst this
            have HG2 := Lib.hid (HG.out HB.out)
            go_wp2_with fail
            go_ret
            rw [HG2.out]
            exact ⟨rfl, HBB.out⟩
end Go.Proofs.Ytdlebcjkokabjaa
