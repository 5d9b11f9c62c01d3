/- The reference's GetT; Less of both sides. -/
import Derived.Test.YtdlebcjkokabjaaCodei
import Derived.Lib.Bytealg
namespace Go.Proofs.Ytdlebcjkokabjaa
set_option maxRecDepth 100000
open Go.RowKit
set_option linter.unusedVariables false
theorem strB_size (l : List Int) : (strB l).size = l.length := by simp [strB, ByteArray.size]
theorem strB_append (a b : List Int) : strB (a ++ b) = strB a ++ strB b := by
  apply ByteArray.ext
  simp [strB]
theorem ints_one {w : World} {b : List Int} {bb off cap : Nat} (hv : Ints .u8 w (.slice (some ⟨bb, off, none⟩) b.length cap) b) {k : Nat} (hk : k < b.length) (c2 : Nat) (hc : 1 ≤ c2) : Ints .u8 w (.slice (some ⟨bb, off + k, none⟩) 1 c2) [b.getD k 0] := by
  obtain ⟨bb', off', e, hb, hcell⟩ := hv.cell hk
  cases e
  refine ⟨_, _, rfl, hc, .inr ⟨bb, off + k, rfl, hb, fun i hi => ?_⟩⟩
  obtain rfl : i = 0 := by simpa using hi
  simpa using hcell
set_option maxHeartbeats 8000000 in
theorem rgetT_any (v : Value) (b : List Int) (w : World) (hv : Ints .u8 w v b) (hb : Bt b) (hl : b.length ≤ 100000) :
    Calls Try.prog 99 #[v] w fun e w' => e = .returned (tripT (getT b [] 0)) ∧ w = w' := by
  have HV := Lib.hid hv
  obtain ⟨a, cap, rfl, hcap, -⟩ := hv
  have HBt := Lib.hid hb
  clear hb
  have hS0 : Value.string ⟨#[]⟩ = Value.string (strB []) := rfl
  go_enter Try.func99, Try.ntmps99
  go_wp2_with fail
  go_loopw [5, 6] (fun sv iv wr => ∃ (k : Nat) (acc : List Int), k ≤ b.length ∧ sv = .string (strB acc) ∧ iv = .int .i64 k ∧ Hid (acc.length ≤ k ∧ getT (b.drop k) acc k = getT b [] 0) ∧ w = wr) (fun _ iv _ => b.length - (intOf iv).toNat)
  case atStart => exact ⟨0, [], Nat.zero_le _, rfl, rfl, Lib.hid ⟨Nat.le_refl _, rfl⟩, by trivial⟩
  case round =>
    obtain ⟨k, acc, hk, rfl, rfl, hS, rfl⟩ := hrel
    have hsz : ((strB acc).size : Int) ≤ 100000 := by rw [strB_size]; have := hS.out.1; omega
    by_cases hlt : k < b.length
    · have i1 : (k : Int) < (b.length : Int) := by omega
      have hE := hS.out.2
      rw [drop_one (k := k) hlt] at hE
      obtain ⟨bb, off, rfl, hbl, hc0⟩ := HV.out.cell hlt
      have hr0 := HBt.out.getD (d := 0) (by decide) (by decide) k
      have hcv := conv_ints (ints_one HV.out hlt (cap - k) (by omega)) (Bt.cons hr0.1 hr0.2 bt_nil)
      have hs1 : ((strB [b.getD k 0]).size : Int) = 1 := by rw [strB_size]; rfl
      generalize hc : b.getD k 0 = c at *
      have i6 : IntKind.i64.wrap ((k : Int) + 1) = (k : Int) + 1 := IntWalk.i64_in _ (by omega)
      clear hc
      by_cases h0 : c = 0
      · subst h0
        have hadd := Lib.hid (strB_append acc [0])
        generalize hst1 : strB [0] = S1 at *
        generalize hst : strB acc = S at *
        have Hst := Lib.hid hst
        clear hst hst1
        by_cases h2 : k + 1 < b.length
        · have i2 : ¬ (b.length : Int) ≤ (k : Int) + 1 := by omega
          have i3 : (k : Int) + 1 < (b.length : Int) := by omega
          have i4 : (0 : Int) ≤ (k : Int) + 1 := by omega
          rw [drop_one (k := k + 1) h2] at hE
          obtain ⟨bb', off', e', -, hc1⟩ := HV.out.cell h2
          cases e'
          generalize hd : b.getD (k + 1) 0 = d at *
          clear hd
          by_cases d0 : d = 0
          · subst d0
            rw [getT_stop] at hE
            have HE := Lib.hid hE
            clear hE
            go_wp2_with fail
            exact bodyPost_ret (v := .tuple #[.string S, .int .i64 ((k + 2 : Nat) : Int), .int .i64 0]) (by simp [results, Try.results99, go_sem]) rfl ⟨by rw [← HE.out]; unfold tripT; rw [Hst.out]; rfl, by trivial⟩
          · have e0 : (d == 0) = false := by simpa using d0
            by_cases d1 : d = 1
            · subst d1
              rw [getT_zero] at hE
              have HE := Lib.hid hE
              clear hE
              go_wp2_with (simp only [hcv])
              go_roundw
              case rel => exact ⟨k + 2, acc ++ [0], by omega, by rw [hadd.out], by go_num, Lib.hid ⟨by simp; have := hS.out.1; omega, HE.out⟩, by trivial⟩
              case measure => simp [intOf] <;> omega
            · have e1 : (d == 1) = false := by simpa using d1
              rw [getT_bad d0 d1] at hE
              have HE := Lib.hid hE
              clear hE
              go_wp2_with fail
              exact bodyPost_ret (v := .tuple #[.string ByteArray.empty, .int .i64 0, .int .i64 6]) (by simp [results, Try.results99, go_sem]; rfl) rfl ⟨by rw [← HE.out]; rfl, by trivial⟩
        · have i2 : (b.length : Int) ≤ (k : Int) + 1 := by omega
          have HE := Lib.hid (hS.out.2.symm.trans (getT_past b k acc k h2))
          clear hE
          go_wp2_with fail
          exact bodyPost_ret (v := .tuple #[.string ByteArray.empty, .int .i64 0, .int .i64 5]) (by simp [results, Try.results99, go_sem]; rfl) rfl ⟨by rw [HE.out]; rfl, by trivial⟩
      · have e0 : (c == 0) = false := by simpa using h0
        have hadd := Lib.hid (strB_append acc [c])
        rw [getT_char h0] at hE
        have HE := Lib.hid hE
        generalize strB [c] = S1 at *
        generalize strB acc = S at *
        clear hE
        go_wp2_with (simp only [hcv])
        go_roundw
        case rel => exact ⟨k + 1, acc ++ [c], by omega, by rw [hadd.out], by go_num, Lib.hid ⟨by simp; have := hS.out.1; omega, HE.out⟩, by trivial⟩
        case measure => simp [intOf] <;> omega
    · have i1 : ¬ (k : Int) < (b.length : Int) := by omega
      have HE := Lib.hid (hS.out.2.symm.trans (getT_past b k acc k (by omega)))
      go_wp2_with fail
      exact bodyPost_ret (v := .tuple #[.string ByteArray.empty, .int .i64 0, .int .i64 5]) (by simp [results, Try.results99, go_sem]; rfl) rfl ⟨by rw [HE.out]; rfl, by trivial⟩
theorem lessL_cons (a b : Int) (x y : List Int) : lessL (a :: x) (b :: y) = if a < b then true else if b < a then false else lessL x y := by rw [lessL]
end Go.Proofs.Ytdlebcjkokabjaa
