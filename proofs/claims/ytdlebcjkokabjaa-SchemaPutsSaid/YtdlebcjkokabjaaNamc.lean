/- The program's Is. -/
import Derived.Test.YtdlebcjkokabjaaNamb
namespace Go.Proofs.Ytdlebcjkokabjaa
set_option maxRecDepth 100000
open Go.RowKit
set_option linter.unusedVariables false
theorem letter_any (c : Int) (w : World) : Calls Try.prog 79 #[.int .u8 c] w fun e w' => e = .returned (.bool (letB c)) ∧ w = w' := by
  by_cases h1 : 97 ≤ c
  · by_cases h2 : c ≤ 122
    · have e : letB c = true := decide_eq_true ⟨h1, h2⟩
      rw [e]
      go_enter Try.func79, Try.ntmps79
      go_wp2
      go_ret
      exact ⟨rfl, rfl⟩
    · have e : letB c = false := decide_eq_false (fun q => h2 q.2)
      rw [e]
      go_enter Try.func79, Try.ntmps79
      go_wp2
      go_ret
      exact ⟨rfl, rfl⟩
  · have e : letB c = false := decide_eq_false (fun q => h1 q.1)
    rw [e]
    go_enter Try.func79, Try.ntmps79
    go_wp2
    go_ret
    exact ⟨rfl, rfl⟩
theorem digit_any (c : Int) (w : World) : Calls Try.prog 80 #[.int .u8 c] w fun e w' => e = .returned (.bool (digB c)) ∧ w = w' := by
  by_cases h1 : 48 ≤ c
  · by_cases h2 : c ≤ 57
    · have e : digB c = true := decide_eq_true ⟨h1, h2⟩
      rw [e]
      go_enter Try.func80, Try.ntmps80
      go_wp2
      go_ret
      exact ⟨rfl, rfl⟩
    · have e : digB c = false := decide_eq_false (fun q => h2 q.2)
      rw [e]
      go_enter Try.func80, Try.ntmps80
      go_wp2
      go_ret
      exact ⟨rfl, rfl⟩
  · have e : digB c = false := decide_eq_false (fun q => h1 q.1)
    rw [e]
    go_enter Try.func80, Try.ntmps80
    go_wp2
    go_ret
    exact ⟨rfl, rfl⟩
theorem dec_not (r : Int) : (!decide (0 ≤ r)) = decide (r < 0) := by
  by_cases q : r < 0
  · rw [decide_eq_true q, decide_eq_false (by omega)]; rfl
  · rw [decide_eq_false q, decide_eq_true (by omega)]; rfl
theorem byt_get {s : ByteArray} {k : Nat} (h : k < s.size) : (s[k].toNat : Int) = byt s k := by
  have h2 : k < s.data.size := h
  have e : s.data.getD k 0 = s[k] := by
    rw [ByteArray.getElem_eq_getElem_data]
    unfold Array.getD
    rw [dif_pos h2]; rfl
  unfold byt
  rw [e]
set_option maxHeartbeats 1000000 in
theorem is_any (s : ByteArray) (w : World) (hs : s.size ≤ maxLen) :
    Calls Try.prog 60 #[.string s] w fun e w' => e = .returned (.bool (nameB s)) ∧ Below w.heap.size w w' := by
  have HL := Lib.hid (fun c w => letter_any c w)
  have HD := Lib.hid (fun c w => digit_any c w)
  by_cases h1 : s.size < 1
  · rw [name_size (by omega)]
    have h0 : (s.size : Int) < 1 := by omega
    go_enter Try.func60, Try.ntmps60
    go_wp2
    go_ret
    exact ⟨rfl, Below.refl _ _⟩
  · by_cases h2 : 16 < s.size
    · rw [name_size (by omega)]
      have h0 : ¬ (s.size : Int) < 1 := by omega
      have h2' : (16 : Int) < (s.size : Int) := by omega
      go_enter Try.func60, Try.ntmps60
      go_wp2
      go_ret
      exact ⟨rfl, Below.refl _ _⟩
    · have HG := Lib.hid (@name_good s (by omega))
      have HW := Lib.hid (fun w' => word_any s w')
      have HBad := Lib.hid (fun j => @name_bad s j)
      have h0 : ¬ (s.size : Int) < 1 := by omega
      have h2' : (s.size : Int) ≤ 16 := by omega
      have hp : 0 < s.size := by omega
      go_enter Try.func60, Try.ntmps60
      go_wp2_with fail
      rw [byt_get hp]
      refine (HL.out _ _).mono ?_; rintro e w1 ⟨rfl, rfl⟩
      by_cases hl : letB (byt s 0) = true
      · have HO := Lib.hid hl
        rw [hl]
        clear hl
        go_wp2_with fail
        go_loopw [20] (fun i wr => ∃ k : Nat, k ≤ s.size ∧ i = .int .i64 k ∧ w = wr ∧ Hid (∀ j, j < k → okAt s j = true)) (fun i _ => s.size - (intOf i).toNat)
        case atStart => exact ⟨0, Nat.zero_le _, rfl, rfl, Lib.hid (fun j hj => by omega)⟩
        case round =>
          obtain ⟨k, hk, rfl, rfl, HB⟩ := hrel
          by_cases hlt : k < s.size
          · have HN := Lib.hid (fun (q : okAt s k = true) j (hj : j < k + 1) => if e : j = k then e ▸ q else HB.out j (by omega))
            have HF := Lib.hid (fun (q : okAt s k = false) => HBad.out k hlt q)
            have HE : Hid (okAt s k = (letB (byt s k) || (decide (0 < k) && (digB (byt s k) || decide (byt s k = 95))))) := Lib.hid rfl
            have HZ : Hid (letB (byt s k) = false → 0 < k) := Lib.hid (fun q => by
              by_cases e : k = 0
              · subst e; rw [HO.out] at q; cases q
              · omega)
            have HY := Lib.hid (byt_get hlt)
            have HR := byt_range s k
            generalize byt s k = c at *
            go_wp2_with fail
            rw [HY.out]
            refine (HL.out _ _).mono ?_; rintro e w1 ⟨rfl, rfl⟩
            by_cases hl : letB c = true
            · have HN2 := Lib.hid (HN.out (by rw [HE.out, hl]; rfl))
              rw [hl]
              clear hl
              go_wp2_with fail
              go_roundw
              case rel => exact ⟨k + 1, by omega, by go_num, by trivial, HN2⟩
              case measure => simp [intOf]; omega
            · have hl2 : letB c = false := by simpa using hl
              have HP := Lib.hid (HZ.out hl2)
              rw [hl2] at HE ⊢
              clear hl hl2 HZ
              go_wp2_with fail
              rw [HY.out]
              refine (HD.out _ _).mono ?_; rintro e w1 ⟨rfl, rfl⟩
              by_cases hd : digB c = true
              · have HN2 := Lib.hid (HN.out (by rw [HE.out, hd, decide_eq_true HP.out]; rfl))
                rw [hd]
                clear hd
                go_wp2_with fail
                go_roundw
                case rel => exact ⟨k + 1, by omega, by go_num, by trivial, HN2⟩
                case measure => simp [intOf]; omega
              · have hd2 : digB c = false := by simpa using hd
                rw [hd2] at HE ⊢
                clear hd hd2
                have hy := HY.out
                by_cases hu : c = 95
                · have HN2 := Lib.hid (HN.out (by rw [HE.out, decide_eq_true hu, decide_eq_true HP.out]; rfl))
                  subst hu
                  have hq : ((s[k].toNat : Int) == 95) = true := by rw [hy]; rfl
                  clear hy
                  go_wp2_with fail
                  go_roundw
                  case rel => exact ⟨k + 1, by omega, by go_num, by trivial, HN2⟩
                  case measure => simp [intOf]; omega
                · have HF2 := Lib.hid (HF.out (by rw [HE.out, decide_eq_false hu]; simp))
                  have hq : ((s[k].toNat : Int) == 95) = false := by rw [hy]; simpa using hu
                  clear hy
                  go_wp2_with fail
                  go_ret
                  rw [HF2.out]
                  exact ⟨rfl, Below.refl _ _⟩
          · have : k = s.size := by omega
            subst this
            have HG2 := Lib.hid (HG.out HB.out)
            go_wp2_with fail
            refine (HW.out _).mono ?_; rintro e w1 ⟨rfl, hb⟩
            have HBB := Lib.hid hb
            clear hb
            generalize placeL wordsL s = r at *
            go_wp2_with fail
            go_ret
            rw [HG2.out]
            exact ⟨congrArg (fun x => Ending.returned (Value.bool x)) (dec_not r), HBB.out⟩
      · have hl2 : letB (byt s 0) = false := by simpa using hl
        have HR := Lib.hid (HBad.out 0 hp (by unfold okAt; rw [hl2]; rfl))
        rw [hl2]
        clear hl hl2
        go_wp2_with fail
        go_ret
        rw [HR.out]
        exact ⟨rfl, Below.refl _ _⟩
end Go.Proofs.Ytdlebcjkokabjaa
