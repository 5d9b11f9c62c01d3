/- A float as an odd number times a power of two: what the reference returns. -/
import Derived.Test.YtpfcacjcikhamaaDoorFlog
namespace Go.Proofs.YtpfcacjcikhamaaDoor
set_option maxRecDepth 100000
open Go.RowKit
set_option linter.unusedVariables false
def SplitPost (x c : Nat) (q : Int) (w : World) (e : Ending) (w' : World) : Prop := (∃ m k : Int, IsSplit c q m k ∧ e = .returned (.tuple #[.bool (negB x), .int .u64 m, .int .i64 k])) ∧ Drawn w w'
theorem split_bounds {c d : Nat} {q p e : Int} (hc : Canon c q) (hq : q ≤ 971) (h0 : c ≠ 0) (hd : d < 9007199254740992) (hp : -1074 ≤ p) (hp2 : p ≤ 0) (hs : SameD d (p + e) c q) : -1200 ≤ e ∧ e ≤ 2200 := by
  have h1 := hs.log2 h0
  have h2 := log2_le hc.1
  have h3 := log2_le hd
  have := hc.2.1
  omega
theorem odd_step {c : Nat} {q z e : Int} (h0 : 0 < z) (hm : z % 2 = 0) (hs : SameD z.toNat e c q) : 0 < z / 2 ∧ SameD (z / 2).toNat (e + 1) c q := by
  refine ⟨by omega, SameD.trans ⟨1, .inl ⟨by omega, by omega⟩⟩ hs⟩
set_option maxHeartbeats 4000000 in
theorem rsplit_fin (x c : Nat) (q : Int) (w : World) (hx : W64 x) (hk : kindI x = 1) (hc : Canon c q) (hq : q ≤ 971) (h0 : c ≠ 0) (hr : rungOf c q = x % 9223372036854775808) :
    Calls Tryd.prog 31 #[.float .f64 x] w (SplitPost x c q w) := by
  have hA := Lib.hid (rkind_any x w hx)
  obtain ⟨g1, g2, g3, g4, g5⟩ := kind_one hx hk
  have hL := lt_zero hx g1 g3
  have hU := run_neg (P := Tryd.prog) x hx
  have hne : (kindI x != 1) = false := by rw [hk]; rfl
  have hflip : negB x = true → flipN x = rungOf c q := fun h => by
    unfold negB at h; simp only [decide_eq_true_eq] at h
    unfold W64 at hx; unfold flipN
    rw [if_neg (by omega)]; omega
  have hsame : negB x = false → x = rungOf c q := fun h => by
    unfold negB at h; simp at h
    omega
  have hC := Lib.hid (And.intro hc (And.intro hq h0))
  generalize kindI x = K at *
  have h53 : notNan 4845873199050653696 := ⟨by decide, by decide⟩
  have hstart : ∃ y0, y0 = rungOf c q := ⟨_, rfl⟩
  unfold SplitPost
  generalize hb : negB x = b at *
  clear hk hr g1 g2 g3 g4 g5 hc hq h0 hstart
  have hH53 := Lib.hid h53
  clear h53
  have hB : (b = true ∧ Hid (flipN x = rungOf c q)) ∨ (b = false ∧ Hid (x = rungOf c q)) := by
    cases b
    · exact .inr ⟨rfl, Lib.hid (hsame rfl)⟩
    · exact .inl ⟨rfl, Lib.hid (hflip rfl)⟩
  clear hflip hsame hb
  rcases hB with ⟨rfl, hy⟩ | ⟨rfl, hy⟩
  all_goals
    generalize flipN x = fx at *
    go_enter Tryd.func31, Tryd.ntmps31
    go_wp2_with fail
    refine (hA.out).mono ?_; rintro e w1 ⟨rfl, hd1⟩
    have hd1 := Lib.hid hd1
    go_wp2_with fail
    have HL := Lib.hid hL
    clear hL hU hA hne
    go_loop [5, 6] (fun y i => ∃ k : Nat, (k : Int) ≤ max q 0 ∧ (q ≤ 0 → k = 0) ∧ i = .int .i64 k ∧ Hid (Canon c (q - k)) ∧ ∃ Y : Nat, y = .float .f64 Y ∧ Hid (Y = rungOf c (q - k))) (fun _ i => (q - intOf i).toNat)
    case atStart => exact ⟨0, by omega, fun _ => rfl, rfl, Lib.hid (by simpa using hC.out.1), _, rfl, Lib.hid (by rw [hy.out]; simp)⟩
    case round =>
      obtain ⟨k, hk1, hk2, rfl, hcan, Y, rfl, hY⟩ := hrel
      have hq := hC.out.2.1
      have hbig := big_test hcan.out
      rw [← hY.out] at hbig
      have hnn : notNan Y := by rw [hY.out]; exact (rung_w64 hcan.out (by omega)).2
      have hYlt : Y < 9223372036854775808 := by have := rung_lt hcan.out (by omega); rw [← hY.out] at this; omega
      have hgt := ord_gt hnn hH53.out
      have heq := ord_eq hnn hH53.out
      rw [skey_pos hYlt, skey_pos (x := 4845873199050653696) (by omega)] at hgt heq
      by_cases hcont : 1 ≤ q - k
      · have hst := half_step hcan.out (by omega) hcont
        rw [← hY.out] at hst
        have hcan2 := Lib.hid hst.1
        have hop : ∀ t w, (binOp .quo t (.float .f64 Y) (.float .f64 4611686018427387904)).run Tryd.prog w = .ok (.float .f64 (rungOf c (q - k - 1))) w := fun t w => run_float_arith w .quo t .f64 _ _ _ hst.2
        have hb := hbig.2 hcont
        have hYr := Lib.hid (show rungOf c (q - k - 1) = rungOf c (q - (k + 1 : Nat)) by congr 1; omega)
        have hcan3 := Lib.hid (show Canon c (q - (k + 1 : Nat)) by rw [show q - ((k + 1 : Nat) : Int) = q - k - 1 by omega]; exact hcan2.out)
        generalize rungOf c (q - k - 1) = Y2 at *
        clear hst hbig hcan hY hnn
        have hge : ((FloatKind.f64.format.order Y 4845873199050653696 == some .gt) = true) ∨ ((FloatKind.f64.format.order Y 4845873199050653696 == some .gt) = false ∧ (FloatKind.f64.format.order Y 4845873199050653696 == some .eq) = true) := by
          rw [hgt, heq]
          by_cases e : (Y : Int) = ((4845873199050653696 : Nat) : Int)
          · exact .inr ⟨by simp; omega, by simpa using e⟩
          · exact .inl (by simp; omega)
        clear hgt heq
        rcases hge with hgt | ⟨hgt, heq⟩
        all_goals
          go_wp2_with (simp only [hop])
          go_round
          case rel => exact ⟨k + 1, by omega, by omega, by go_num, hcan3, _, rfl, hYr⟩
          case measure => simp [intOf]; omega
      · have hgt2 : (FloatKind.f64.format.order Y 4845873199050653696 == some .gt) = false := by rw [hgt]; simp; omega
        have heq2 : (FloatKind.f64.format.order Y 4845873199050653696 == some .eq) = false := by rw [heq]; simp; omega
        clear hgt heq hbig
        have hrel2 : Hid (SameD c (q - k + k) c q) := Lib.hid (by rw [show q - (k : Int) + k = q by omega]; exact SameD.refl _ _)
        go_wp2_with fail
        clear hgt2 heq2
        have hq0 : q - k ≤ 0 := by omega
        have hI := Lib.hid (And.intro hcan.out (And.intro hq0 (And.intro hC.out.2.2 hrel2.out)))
        have hHL := HL.out
        clear hHL hcan hrel2 hnn hcont hk1 hk2 hYlt hq hq0
        generalize q - (k : Int) = p0 at *
        go_loop [5, 6] (fun y i => ∃ (d : Nat) (p e : Int), i = .int .i64 e ∧ Hid (Canon d p ∧ p ≤ 0 ∧ d ≠ 0 ∧ SameD d (p + e) c q) ∧ ∃ Y : Nat, y = .float .f64 Y ∧ Hid (Y = rungOf d p)) (fun _ i => (intOf i + 2000).toNat)
        case atStart => exact ⟨c, p0, k, rfl, hI, _, rfl, hY⟩
        case round =>
          clear hI hY
          obtain ⟨d, p, e, rfl, hI, Y, rfl, hY⟩ := hrel
          obtain ⟨i1, i2, i3, i4⟩ := hI.out
          obtain ⟨b1, b2⟩ := split_bounds hC.out.1 hC.out.2.1 hC.out.2.2 i1.1 i1.2.1 i2 i4
          have hcv := whole_cut i1 i2
          have hnn : notNan Y := by rw [hY.out]; exact (rung_w64 i1 (by omega)).2
          have hYlt : Y < 9223372036854775808 := by have := rung_lt i1 (show p ≤ 971 by omega); rw [← hY.out] at this; omega
          have hwl : wholeN d p < 9007199254740992 := by have := whole_le d p; have := i1.1; omega
          have hst := twice_step i1 i3 i2
          rw [← hY.out] at hcv hst
          have hwh := Lib.hid (show wholeN d p = wholeN d p from rfl)
          generalize hn : wholeN d p = n at *
          have hcv2 : ∀ w, (convert 53 23 (.float .f64 Y)).run Tryd.prog w = .ok (.int .u64 (n : Int)) w := fun w => run_convert_float_int w 53 23 .f64 .u64 Y n (by rw [Tryd.underlying53]; rfl) Tryd.underlying23 hcv
          rcases hst with ⟨n', rfl, hs, hfi⟩ | ⟨z, hfi, hz1, hz2, hz3, d2, p2, k1, k2, k3, k4, k5⟩
          · have hS := Lib.hid (show SameD n' e c q from by
              have := (hs.add e).trans i4
              rw [Int.zero_add] at this; exact this)
            have hne : (FloatKind.f64.format.order Y Y != some .eq) = false := by rw [bne_of (ord_eq hnn hnn)]; simp
            have hpos : 0 < n' := by
              rcases Nat.eq_zero_or_pos n' with h | h
              · exact absurd (hs.zero.1 h) i3
              · exact h
            clear hwh hn hI hY i1 i2 i3 i4 hs hcv hnn hYlt
            go_wp2_with (simp only [hcv2])
            clear hne hfi hcv2
            go_loop [7, 6] (fun m i => ∃ z e : Int, m = .int .u64 z ∧ i = .int .i64 e ∧ 0 < z ∧ z < 9007199254740992 ∧ Hid (SameD z.toNat e c q)) (fun m _ => (intOf m).toNat)
            case atStart => exact ⟨n', e, rfl, rfl, by omega, by omega, by simpa using hS⟩
            case round =>
              clear hS
              obtain ⟨z, e, rfl, rfl, z0, z1, hS⟩ := hrel
              have hb2 : -1200 ≤ e ∧ e ≤ 2200 := split_bounds (d := z.toNat) (p := 0) hC.out.1 hC.out.2.1 hC.out.2.2 (by omega) (by omega) (by omega) (by rw [Int.zero_add]; exact hS.out)
              obtain ⟨b1, b2⟩ := hb2
              have z2 : 0 ≤ z := by omega
              by_cases hm : z % 2 = 0
              · have hst := odd_step z0 hm hS.out
                have hS2 := Lib.hid hst.2
                have hp := hst.1
                have hm2 : (z % 2 == 0) = true := by rw [hm]; rfl
                clear hst hS hm
                go_wp2_with fail
                go_round
                case rel => exact ⟨z / 2, e + 1, rfl, rfl, hp, by omega, hS2⟩
                case measure => simp [intOf]; omega
              · have hm2 : (z % 2 == 0) = false := by simpa using hm
                have hE := Lib.hid (show IsSplit c q z e from ⟨z0, by omega, hS.out, z1⟩)
                have hL := HL.out
                clear hS hm
                go_wp2_with fail
                go_ret3
                exact ⟨⟨z, e, hE.out, rfl⟩, hd1.out⟩
          · have hI2 := Lib.hid (And.intro k1 (And.intro k2 (And.intro k3 (show SameD d2 (p2 + (e - 1)) c q from by
              have := k4.add (e - 1)
              rw [show p + 1 + (e - 1) = p + e by omega] at this
              exact this.trans i4))))
            have hop : ∀ t w, (binOp .mul t (.float .f64 Y) (.float .f64 4611686018427387904)).run Tryd.prog w = .ok (.float .f64 (rungOf d2 p2)) w := fun t w => run_float_arith w .mul t .f64 _ _ _ k5
            have hne : (FloatKind.f64.format.order Y z != some .eq) = true := by
              rw [bne_of (ord_eq hnn hz1), skey_pos hYlt, skey_pos hz3]; simp; omega
            have hY2 := Lib.hid (show rungOf d2 p2 = rungOf d2 p2 from rfl)
            generalize hrr : rungOf d2 p2 = R at *
            have hY3 : Hid (R = rungOf d2 p2) := Lib.hid hrr.symm
            clear hrr hY2 hwh hn hI hY i1 i2 i3 i4 hcv hnn hYlt k1 k2 k3 k4 k5 hz1 hz2 hz3
            go_wp2_with (first | simp only [hcv2] | simp only [hop])
            go_round
            case rel => exact ⟨d2, p2, e - 1, rfl, hI2, _, rfl, hY3⟩
            case measure => simp [intOf]; omega
end Go.Proofs.YtpfcacjcikhamaaDoor
