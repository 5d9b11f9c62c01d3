/- Layer 18: the reference's Wrong, Cost and Choose. -/
import Derived.Test.YtifbmdophoemjaaAdvf
namespace Go.Proofs.Ytifbmdophoemjaa
set_option maxRecDepth 100000
open Go.RowKit
set_option linter.unusedVariables false
set_option maxHeartbeats 8000000 in
theorem rwrong_any (w : World) (d : Int) (sv : Value) (s : List Int) (hd : (Lit.int .i64 d).wf = true) (hs : Szs w sv s) (hl : s.length ≤ 1000) :
    Calls Try.prog 9 #[.int .i64 d, sv] w fun e w' => e = .returned (.int .i64 (wrongN d s)) ∧ w = w' := by
  have HS := Lib.hid hs
  obtain ⟨q, qc, rfl⟩ := hs.len
  clear hs
  by_cases h1 : d < 1
  · rw [wrong_dims (.inl h1)]
    go_enter Try.func9, Try.ntmps9
    go_wp2_with fail
    go_ret
    exact ⟨rfl, rfl⟩
  by_cases h6 : 6 < d
  · rw [wrong_dims (.inr h6)]
    go_enter Try.func9, Try.ntmps9
    go_wp2_with fail
    go_ret
    exact ⟨rfl, rfl⟩
  obtain ⟨k, rfl⟩ : ∃ k : Nat, d = k := ⟨d.toNat, by omega⟩
  have hp := pow64 (show k ≤ 6 by omega)
  have hk1 : 1 ≤ k := by omega
  have hk6 : k ≤ 6 := by omega
  have hd1 : ¬ (k : Int) < 1 := h1
  have hd6 : ¬ (6 : Int) < (k : Int) := h6
  have HWm := Lib.hid (fun (hm : ¬ s.length = 2 ^ k) => wrong_many hk1 hk6 hm)
  have HWs := Lib.hid (fun (hm : s.length = 2 ^ k) i (hi : i < s.length) hb => wrong_size hk1 hk6 hm hi hb)
  have HWn := Lib.hid (fun (hm : s.length = 2 ^ k) hb => wrong_not hk1 hk6 hm hb)
  have HT := Lib.hid (two17_any w k (by omega))
  generalize hC : wrongN k s = C at *
  generalize (2 : Nat) ^ k = n at *
  clear hC
  by_cases hm : s.length = n
  rotate_left
  · obtain rfl := HWm.out hm
    have hmi : ((s.length : Int) != (n : Int)) = true := by rw [bne_iff_ne]; intro e; exact hm (Int.ofNat.inj e)
    clear hm HWm HWs HWn
    go_enter Try.func9, Try.ntmps9
    go_wp2_with fail
    refine HT.out.mono ?_; rintro e w1 ⟨rfl, rfl⟩
    go_wp2_with fail
    go_ret
    exact ⟨rfl, rfl⟩
  · subst hm
    have hmi : ((s.length : Int) != (s.length : Int)) = false := by simp
    have HW1 := Lib.hid (HWs.out rfl)
    have HW2 := Lib.hid (HWn.out rfl)
    clear HWm HWs HWn h1 h6
    go_enter Try.func9, Try.ntmps9
    go_wp2_with fail
    refine HT.out.mono ?_; rintro e w1 ⟨rfl, rfl⟩
    go_wp2_with fail
    go_loopw [5] (fun iv wr => ∃ j : Nat, j ≤ s.length ∧ iv = .int .i64 j ∧ wr = w ∧ Hid (∀ i, i < j → 1 ≤ s.getD i 0 ∧ s.getD i 0 ≤ 1099511627776)) (fun iv _ => s.length - (intOf iv).toNat)
    case atStart => exact ⟨0, Nat.zero_le _, rfl, by trivial, Lib.hid (fun i hi => by omega)⟩
    case round =>
      obtain ⟨j, hj, rfl, rfl, HJ⟩ := hrel
      by_cases hlt : j < s.length
      · have hlt' : (j : Int) < (s.length : Int) := by omega
        obtain ⟨b0, off, rfl, -, hc⟩ := HS.out.cell hlt
        by_cases hg : 1 ≤ s.getD j 0 ∧ s.getD j 0 ≤ 1099511627776
        · have HJ2 := Lib.hid (show ∀ i, i < j + 1 → 1 ≤ s.getD i 0 ∧ s.getD i 0 ≤ 1099511627776 from fun i hi => if e : i = j then e ▸ hg else HJ.out i (by omega))
          clear HJ HW1 HW2
          generalize s.getD j 0 = x at *
          have g1 : ¬ x < 1 := by omega
          have g2 : ¬ (1099511627776 : Int) < x := by omega
          clear hg
          go_wp2_with fail
          go_roundw
          case rel => exact ⟨j + 1, by omega, by go_num, by trivial, HJ2⟩
          case measure => simp [intOf]; omega
        · obtain rfl := HW1.out j hlt hg
          clear HJ HW1 HW2
          generalize s.getD j 0 = x at *
          by_cases g1 : x < 1
          · clear hg
            go_wp2_with fail
            go_ret
            exact ⟨rfl, rfl⟩
          · have g2 : (1099511627776 : Int) < x := by omega
            clear hg
            go_wp2_with fail
            go_ret
            exact ⟨rfl, rfl⟩
      · have hjn : j = s.length := by omega
        subst hjn
        have hlt' : ¬ (s.length : Int) < (s.length : Int) := by omega
        obtain rfl := HW2.out HJ.out
        clear HJ HW1 HW2
        go_wp2_with fail
        go_ret
        exact ⟨rfl, rfl⟩
theorem least_yes {s : List Int} {vs : List Nat} {v i : Nat} (h : subN i v = true) : leastN s (vs ++ [v]) i = minI (leastN s vs i) (s.getD v 0) := by rw [least_snoc, if_pos h, minI_is]
theorem least_no {s : List Int} {vs : List Nat} {v i : Nat} (h : subN i v = false) : leastN s (vs ++ [v]) i = leastN s vs i := by rw [least_snoc, if_neg (by rw [h]; decide)]
set_option maxHeartbeats 8000000 in
theorem rcost_any (w : World) (sv uv : Value) (s : List Int) (vs : List Nat) (hs : Szs w sv s) (hu : Msk w uv vs) (ho : Okz s) (h0 : 0 < s.length) (hv : ∀ v ∈ vs, v < s.length) (hl : s.length ≤ 64) (hvl : vs.length ≤ 1000000) :
    Calls Try.prog 10 #[sv, uv] w fun e w' => e = .returned (.int .i64 (costN s vs)) ∧ w = w' := by
  have HS := Lib.hid hs
  have HU := Lib.hid hu
  have HK := Lib.hid (fun k (hk : k ≤ 64) => sum_part ho h0 hv hk)
  have HN := Lib.hid (fun k => show sumK (leastN s vs) (k + 1) = sumK (leastN s vs) k + leastN s vs k from rfl)
  have HE := Lib.hid (show costN s vs = sumK (leastN s vs) s.length from rfl)
  have HZ := Lib.hid (show sumK (leastN s vs) 0 = 0 from rfl)
  have HB := Lib.hid (fun i => show leastN s (vs.take 0) i = s.getD (s.length - 1) 0 from by rw [List.take_zero]; rfl)
  have HT := Lib.hid (fun j (hj : j < vs.length) => @take_next vs j hj)
  have HL := Lib.hid (show vs.take vs.length = vs from List.take_length)
  have HV := Lib.hid (fun j (hj : j < vs.length) => hv _ (getD_memN hj))
  have HY := Lib.hid (fun us v i (h : subN i v = true) => @least_yes s us v i h)
  have HNo := Lib.hid (fun us v i (h : subN i v = false) => @least_no s us v i h)
  have HSub := Lib.hid (fun w i v (hi : i < 64) (hv : v < s.length) => rsub17_any w i v (by omega) (by omega))
  have hm0 : (0 : Int) ≤ (s.length : Int) - 1 := by omega
  have hm1 : (s.length : Int) - 1 < (s.length : Int) := by omega
  have hm2 : ((s.length : Int) - 1).toNat = s.length - 1 := by omega
  have hmw : IntKind.i64.wrap ((s.length : Int) - 1) = (s.length : Int) - 1 := IntWalk.i64_in _ (by omega)
  have hmw2 : wrap64 ((s.length : Int) - 1) = (s.length : Int) - 1 := wrap64_in (by omega) (by omega)
  obtain ⟨q, qc, rfl⟩ := hs.len
  obtain ⟨p, pc, rfl⟩ := hu.len
  obtain ⟨b0, off, rfl, -, hcb⟩ := hs.cell (i := s.length - 1) (by omega)
  generalize hbs : s.getD (s.length - 1) 0 = bs at *
  clear hs hu ho hv hbs
  go_enter Try.func10, Try.ntmps10
  go_wp2_with fail
  go_loopw [6, 5] (fun iv tv wr => ∃ (k : Nat) (t : Int), k ≤ s.length ∧ iv = .int .i64 k ∧ tv = .int .i64 t ∧ wr = w ∧ Hid (t = sumK (leastN s vs) k)) (fun iv _ _ => s.length - (intOf iv).toNat)
  case atStart => exact ⟨0, 0, Nat.zero_le _, rfl, rfl, by trivial, Lib.hid HZ.out.symm⟩
  case round =>
    obtain ⟨k, t, hk, rfl, rfl, rfl, HTt⟩ := hrel
    by_cases hlt : k < s.length
    · have hlt' : (k : Int) < (s.length : Int) := by omega
      have hcw := u32_small (show k < 4294967296 by omega)
      have hk64 : k < 64 := by omega
      go_wp2_with fail
      generalize decide ((k : Int) < (s.length : Int)) = b12 at *
      go_loopw [8, 7] (fun iv mv wq => ∃ (j : Nat) (m : Int), j ≤ vs.length ∧ iv = .int .i64 j ∧ mv = .int .i64 m ∧ wq = wr ∧ Hid (m = leastN s (vs.take j) k)) (fun iv _ _ => vs.length - (intOf iv).toNat)
      case atStart => exact ⟨0, _, Nat.zero_le _, rfl, rfl, by trivial, Lib.hid (HB.out k).symm⟩
      case round =>
        obtain ⟨j, m, hj, rfl, rfl, rfl, HM⟩ := hrel
        by_cases hltj : j < vs.length
        · have hltj' : (j : Int) < (vs.length : Int) := by omega
          obtain ⟨b1, off1, rfl, hc1⟩ := Msk.at HU.out hltj
          have hvv := HV.out j hltj
          have hvv' : ((vs.getD j 0 : Nat) : Int) < (s.length : Int) := by omega
          obtain ⟨b2, off2, e2, -, hc2⟩ := HS.out.cell hvv
          obtain ⟨rfl, rfl⟩ : b2 = b0 ∧ off2 = off := by
            have := Option.some.inj e2
            simp only [Addr.mk.injEq] at this
            exact ⟨this.1.symm, this.2.1.symm⟩
          have HSj := Lib.hid (HSub.out wr k (vs.getD j 0) hk64 hvv)
          have HTj := HT.out j hltj
          have HY1 := HY.out (vs.take j) (vs.getD j 0) k
          have HN1 := HNo.out (vs.take j) (vs.getD j 0) k
          rw [← HTj, ← HM.out] at HY1 HN1
          have HY2 := Lib.hid HY1
          have HN2 := Lib.hid HN1
          clear HY1 HN1 HTj HM e2 HY HNo HT HV hvv
          cases hsb : subN k (vs.getD j 0) with
          | false =>
            have HM2 := Lib.hid (HN2.out hsb).symm
            rw [hsb] at HSj
            clear HY2 HN2 hsb
            generalize vs.getD j 0 = x at *
            generalize s.getD x 0 = z at *
            go_wp2_with fail
            refine HSj.out.mono ?_; rintro e w1 ⟨rfl, rfl⟩
            go_wp2_with fail
            go_roundw
            case rel => exact ⟨j + 1, m, by omega, by go_num, rfl, by trivial, HM2⟩
            case measure => simp [intOf]; omega
          | true =>
            have HM2 := Lib.hid (HY2.out hsb).symm
            rw [hsb] at HSj
            clear HY2 HN2 hsb
            generalize vs.getD j 0 = x at *
            generalize s.getD x 0 = z at *
            unfold minI at HM2
            go_wp2_with fail
            refine HSj.out.mono ?_; rintro e w1 ⟨rfl, rfl⟩
            go_wp2_with fail
            go_roundw
            case rel => exact ⟨j + 1, _, by omega, by go_num, rfl, by trivial, HM2⟩
            case measure => simp [intOf]; omega
        · have hjn : j = vs.length := by omega
          subst hjn
          have hltj' : ¬ (vs.length : Int) < (vs.length : Int) := by omega
          have hn := HN.out k
          have hr := HK.out (k + 1) (by omega)
          have hr0 := HK.out k (by omega)
          have hm := HM.out
          rw [HL.out] at hm
          rw [hn] at hr
          rw [← HTt.out, ← hm] at hr hn
          rw [← HTt.out] at hr0
          have HT2 := Lib.hid hn.symm
          clear hn HTt HM hm
          have hww : IntKind.i64.wrap (t + m) = t + m := IntWalk.i64_in _ (by omega)
          go_wp2_with fail
          go_roundw
          case rel => exact ⟨k + 1, t + m, by omega, by go_num, rfl, by trivial, HT2⟩
          case measure => simp [intOf]; omega
    · have hkn : k = s.length := by omega
      subst hkn
      have hlt' : ¬ (s.length : Int) < (s.length : Int) := by omega
      have hR := HTt.out.trans HE.out.symm
      subst hR
      clear HTt HE
      go_wp2_with fail
      go_ret
      exact ⟨rfl, rfl⟩
end Go.Proofs.Ytifbmdophoemjaa
