/- Layer 18: what a view would save, which one saves most, the first error, Cost, Gain and Choose of the program. -/
import Derived.Test.YtifbmdophoemjaaAdvb
namespace Go.Proofs.Ytifbmdophoemjaa
set_option maxRecDepth 100000
open Go.RowKit
set_option linter.unusedVariables false
theorem gain_yes {s : List Int} {vs : List Nat} {v k : Nat} (h : subN k v = true) : gainN s vs v k = leastN s vs k - minI (leastN s vs k) (s.getD v 0) := by
  unfold gainN; rw [if_pos h, minI_is]
theorem gain_no {s : List Int} {vs : List Nat} {v k : Nat} (h : subN k v = false) : gainN s vs v k = 0 := by
  unfold gainN; rw [if_neg (by rw [h]; decide)]
set_option maxHeartbeats 4000000 in
theorem psaved_any (w : World) (B : Nat) (s : List Int) (vs : List Nat) (v : Nat) (h : TabR w B s vs) (ho : Okz s) (hv : ∀ x ∈ vs, x < s.length) (hw : v < s.length) (hl : s.length ≤ 64) :
    Calls Try.prog 23 #[.slice (some ⟨B, 0, none⟩) s.length s.length, .int .u32 v, .int .i64 (s.getD v 0)] w fun e w' => e = .returned (.int .i64 (savedN s vs v)) ∧ Drew w w' := by
  have h0 : 0 < s.length := by omega
  have HC := Lib.hid h
  have HK := Lib.hid (fun k (hk : k ≤ 64) => save_part ho h0 hv hw hk)
  have HN := Lib.hid (fun k => show sumK (gainN s vs v) (k + 1) = sumK (gainN s vs v) k + gainN s vs v k from rfl)
  have HE := Lib.hid (show savedN s vs v = sumK (gainN s vs v) s.length from rfl)
  have HZ := Lib.hid (show sumK (gainN s vs v) 0 = 0 from rfl)
  have HS := Lib.hid (fun w k (hk : k < 64) => psub_any w k v (by omega) (by omega))
  have HY := Lib.hid (fun k (h : subN k v = true) => gain_yes (s := s) (vs := vs) h)
  have HNo := Lib.hid (fun k (h : subN k v = false) => gain_no (s := s) (vs := vs) h)
  have HL := Lib.hid (fun i => least_range ho h0 i hv)
  have HV := Lib.hid (ho.at hw)
  generalize savedN s vs v = C at *
  generalize s.getD v 0 = z at *
  clear h ho hv
  go_enter Try.func23, Try.ntmps23
  go_wp2_with fail
  go_loopw [11, 7] (fun iv tv wr => ∃ (k : Nat) (t : Int), k ≤ s.length ∧ iv = .int .i64 k ∧ tv = .int .i64 t ∧ Hid (Drew w wr) ∧ Hid (t = sumK (gainN s vs v) k)) (fun iv _ _ => s.length - (intOf iv).toNat)
  case atStart => exact ⟨0, 0, Nat.zero_le _, rfl, rfl, Lib.hid (Drew.refl _), Lib.hid HZ.out.symm⟩
  case round =>
    obtain ⟨k, t, hk, rfl, rfl, HD, HT⟩ := hrel
    by_cases hlt : k < s.length
    · have hlt' : (k : Int) < (s.length : Int) := by omega
      have hcw := u32_small (show k < 4294967296 by omega)
      have hc := ((HC.out.keep HD.out.below).at hlt).1
      have hn := HN.out k
      have hr := HK.out (k + 1) (by omega)
      have hr0 := HK.out k (by omega)
      have hy := HL.out k
      have hz := HV.out
      rw [hn] at hr
      rw [← HT.out] at hr hn hr0
      have HSb := Lib.hid (HS.out wr k (by omega))
      cases hs : subN k v with
      | false =>
        rw [HNo.out k hs, Int.add_zero] at hn
        rw [hs] at HSb
        have HT2 := Lib.hid hn.symm
        clear hn HT hs hc hr hy hz
        go_wp2_with fail
        refine HSb.out.mono ?_; rintro e w1 ⟨rfl, rfl⟩
        go_wp2_with fail
        go_roundw
        case rel => exact ⟨k + 1, t, by omega, by go_num, rfl, HD, HT2⟩
        case measure => simp [intOf]; omega
      | true =>
        rw [HY.out k hs] at hn hr
        rw [hs] at HSb
        have HT2 := Lib.hid hn.symm
        have HDn := Lib.hid (fun n => HD.out.then (show Drew wr (wr.drewN n) from ⟨n, rfl⟩))
        clear hn HT hs HY HNo HN HK HE
        generalize leastN s vs k = y at *
        have hm1 : 0 ≤ y - minI y z ∧ y - minI y z ≤ 1099511627776 := by rw [minI_is]; omega
        have hww : IntKind.i64.wrap (y - minI y z) = y - minI y z := IntWalk.i64_in _ (by omega)
        have hww2 : IntKind.i64.wrap (t + (y - minI y z)) = t + (y - minI y z) := IntWalk.i64_in _ (by omega)
        have hmi : minI y z = if z < y then z else y := rfl
        go_wp2_with fail
        refine HSb.out.mono ?_; rintro e w1 ⟨rfl, rfl⟩
        go_wp2_with fail
        go_quiet (fail)
        have HD2 := Lib.hid (HDn.out nq)
        go_wp2
        go_roundw
        case rel => exact ⟨k + 1, t + (y - minI y z), by omega, by go_num, rfl, HD2, HT2⟩
        case measure => simp [intOf]; omega
    · have hkn : k = s.length := by omega
      subst hkn
      have hlt' : ¬ (s.length : Int) < (s.length : Int) := by omega
      have hR := HT.out.trans HE.out.symm
      subst hR
      clear HT HE
      go_wp2_with fail
      go_ret
      exact ⟨rfl, HD.out⟩
end Go.Proofs.Ytifbmdophoemjaa
