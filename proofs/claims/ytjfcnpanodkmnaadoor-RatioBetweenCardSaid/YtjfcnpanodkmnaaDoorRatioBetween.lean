/- RatioBetween: for any list of numbers the statement's function returns true and changes nothing that was there. No condition; the row lists math/bits.deBruijn32tab as the program's text lays it. -/
import Derived.Test.YtjfcnpanodkmnaaDoorRows
import Derived.Test.YtjfcnpanodkmnaaDoorCards
import Derived.Test.YtjfcnpanodkmnaaDoorTie
import Derived.Test.YtjfcnpanodkmnaaDoorLaid2
import Derived.Test.YtjfcnpanodkmnaaDoorRatz
import Derived.Test.YtjfcnpanodkmnaaDoorOfr
import Derived.SevenTiedAt
namespace Go.Proofs.YtjfcnpanodkmnaaDoor.ratioBetween
set_option maxRecDepth 100000
open Go.ChangeShapes Go.WideShapes Go.ChangeAt Go.RowKit
set_option linter.unusedVariables false
theorem dev_facts {n : Nat} {s1 s2 lo hi : Int} {S R : Nat} (hn : 1 ≤ n) (hn2 : n ≤ 100) (hS : (S : Int) = s2) (hb : bitsZ (S : Int) ≤ 1000) (hst : Stat n s1 s2 lo hi) (hW : hi - lo ≤ 4294967295) (h : DevRes n s1 S R) : (R = 0 ↔ lo = hi) ∧ R ≤ fI (hi - lo).natAbs := by
  obtain ⟨h1, h2, h3, h0, h4, h5, h6, -⟩ := hst
  rcases h with ⟨k, -⟩ | ⟨k1, k2, k3, -⟩ | ⟨k1, k2, D, hD, hr⟩
  · exfalso; rcases k with k | k <;> omega
  · exfalso; unfold spread at h4; rw [hS] at k3; omega
  · have hsp : (D : Int) = spread n s1 s2 := by unfold spread; rw [hD, hS]
    rw [← hsp] at h5 h6
    rw [Int.natAbs_natCast] at hr
    have hq : 0 < n * n := Nat.mul_pos hn hn
    rcases hr with ⟨m, rfl⟩ | ⟨m1, m2, hr⟩
    · have hD0 : D = 0 := by rcases m with m | m; exact m; omega
      subst hD0
      have e : extW ((0 : Nat) : Int) ((n * n : Nat) : Int) = 0 := by unfold extW; rw [if_neg (by omega)]
      rw [e]
      exact ⟨⟨fun _ => h5.1 rfl, fun _ => rfl⟩, Nat.zero_le _⟩
    · have hq2 : n * n ≤ 1048576 := Nat.le_trans (Nat.mul_le_mul hn2 hn2) (by decide)
      refine ⟨⟨fun e => absurd e (rootw_pos m1 hq2 hr), fun e => absurd (h5.2 e) (by omega)⟩, ?_⟩
      refine root_le hq hr (by omega) ?_
      have e1 : (((hi - lo).natAbs * (hi - lo).natAbs * (n * n) : Nat) : Int) = (hi - lo) * (hi - lo) * ((n : Int) * n) := by
        rw [Int.natCast_mul, Int.natCast_mul, Int.natCast_mul, sq_abs]
      omega
theorem getD_in {zs : List Int} {i : Nat} (h : i < zs.length) : zs.getD i 0 ∈ zs := by
  have e : zs.getD i 0 = zs[i] := by simp [List.getD, h]
  rw [e]; exact List.getElem_mem h
theorem ord_ge {x y : Nat} (hx : notNan x) (hy : notNan y) (h : skey y ≤ skey x) : FloatKind.f64.format.order x y = some .gt ∨ FloatKind.f64.format.order x y = some .eq := by
  rcases Int.lt_or_eq_of_le h with h | h
  · exact .inl (by have := ord_gt hx hy; rw [decide_eq_true h] at this; simpa using this)
  · exact .inr (by have := ord_eq hx hy; rw [decide_eq_true h.symm] at this; simpa using this)
theorem ord_le {x y : Nat} (hx : notNan x) (hy : notNan y) (h : skey x ≤ skey y) : FloatKind.f64.format.order x y = some .lt ∨ FloatKind.f64.format.order x y = some .eq := by
  rcases Int.lt_or_eq_of_le h with h | h
  · exact .inl (by have := ord_lt hx hy; rw [decide_eq_true h] at this; simpa using this)
  · exact .inr (by have := ord_eq hx hy; rw [decide_eq_true h] at this; simpa using this)
theorem or_bool {x : Option Ordering} {a b : Ordering} (h : x = some a ∨ x = some b) : ((x == some a) || (x == some b)) = true := by rcases h with h | h <;> simp [h]
theorem ord_zero {R : Nat} {lo hi : Int} (hR : notNan R) (hk : skey R = R) (h : R = 0 ↔ lo = hi) : (FloatKind.f64.format.order R 0 == some .eq) = (lo == hi) := by
  rw [ord_eq hR ⟨by decide, by decide⟩, hk, show skey 0 = 0 from rfl, Bool.eq_iff_iff]
  simp; omega
set_option maxHeartbeats 4000000 in
theorem walk (a0 : Option Addr) (len0 cap0 : Nat) (z0 : List Int) (w : World) (g0 : Given .i32 w (.slice a0 len0 cap0) z0) (m0 : len0 ≤ 9223372036854775807) (hT : Tab w) :
    Calls Tryd.prog 5 #[.slice a0 len0 cap0] w fun r w' => r = .returned (.bool true) ∧ Below w.heap.size w w' := by
  have l0 : z0.length = len0 := by obtain ⟨⟨_, _, e, _⟩, _⟩ := g0; simp at e; exact e.2.1.symm
  have hA := Lib.hid (fun w1 (h : Below w.heap.size w w1) => awake4_any w1 (hT.call h))
  by_cases hz : len0 = 0
  · have b1 : ((len0 : Int) == 0) = true := by simp; omega
    clear g0 hT l0 hz
    go_enter Tryd.func5, Tryd.ntmps5
    go_wp2_with fail
    refine (hA.out w (Below.refl _ _)).mono ?_; rintro r w1 ⟨rfl, hb⟩
    go_wp2_with fail
    go_ret
    exact ⟨rfl, hb⟩
  · have b1 : ((len0 : Int) == 0) = false := by simp; omega
    by_cases hlen : 100 < len0
    · have b2 : (100 : Int) < (len0 : Int) := by omega
      clear g0 hT l0 hz hlen
      go_enter Tryd.func5, Tryd.ntmps5
      go_wp2_with fail
      refine (hA.out w (Below.refl _ _)).mono ?_; rintro r w1 ⟨rfl, hb⟩
      go_wp2_with fail
      go_ret
      exact ⟨rfl, hb⟩
    · have hG := Lib.hid g0
      have HT := Lib.hid hT
      have hx0 : ∀ i, i < z0.length → -2147483648 ≤ z0.getD i 0 ∧ z0.getD i 0 ≤ 2147483647 := fun i hi => by
        have h := g0.2 (z0.getD i 0) (getD_in hi)
        generalize z0.getD i 0 = x at h ⊢
        simp [Lit.wf, IntKind.min, IntKind.max, IntKind.signed, IntKind.bits] at h; omega
      have HX := Lib.hid hx0
      obtain ⟨bb, oo, hp, hbb, hc0⟩ := g0.1.cell (i := 0) (by omega)
      subst hp
      have b2 : (len0 : Int) ≤ 100 := by omega
      have b3 : 0 < (len0 : Int) := by omega
      have hr0 := hx0 0 (by omega)
      obtain ⟨x0, hx0e⟩ : ∃ x0, z0.getD 0 0 = x0 := ⟨_, rfl⟩
      rw [hx0e] at hr0 hc0
      rw [Nat.add_zero] at hc0
      have HX0 := Lib.hid hx0e
      have HL := Lib.hid l0
      clear g0 hT hz hlen hx0 l0 hx0e
      go_enter Tryd.func5, Tryd.ntmps5
      go_wp2_with fail
      go_quiet (fail)
      have hd := below_drewN (Below.refl w.heap.size w) nq
      generalize w.drewN nq = W1 at *
      have HD := Lib.hid hd
      have hk := Lib.hid (Kept.start W1 (.bool false) (.slice none 0 0) 30)
      have hnb : NumBox w W1.heap.size 0 (W1.alloc (.cells #[.bool false, .slice none 0 0] 30)) := ⟨⟨_, _, by simp [go_sem], by simp [go_sem], isNum_zero⟩, hk.out.down hd⟩
      have HNB := Lib.hid hnb
      have hst := Lib.hid (Stat.start x0)
      clear hd hk hnb hc0
      go_wp2_with fail
      generalize W1.alloc (.cells #[.bool false, .slice none 0 0] 30) = W2 at *
      generalize W1.heap.size = M at *
      go_loopw [3, 4, 5, 7] (fun v3 v4 v5 v7 wr => ∃ (k : Nat) (s1 lo hi s2 : Int), v3 = .int .i64 s1 ∧ v4 = .int .i64 lo ∧ v5 = .int .i64 hi ∧ v7 = .int .i64 k ∧ k ≤ len0 ∧ -2147483648 ≤ lo ∧ hi ≤ 2147483647 ∧ -2147483648 * (k : Int) ≤ s1 ∧ s1 ≤ 2147483647 * (k : Int) ∧ 0 ≤ s2 ∧ s2 ≤ 4611686018427387904 * (k : Int) ∧ Hid (Stat k s1 s2 lo hi ∧ (k = 0 → lo = x0) ∧ NumBox w M s2 wr)) (fun _ _ _ v7 _ => len0 - (intOf v7).toNat)
      case atStart => exact ⟨0, 0, x0, x0, 0, rfl, rfl, rfl, rfl, by omega, by omega, by omega, by omega, by omega, by omega, by omega, Lib.hid ⟨hst.out, fun _ => rfl, HNB.out⟩⟩
      case round =>
        clear HNB hst HD
        obtain ⟨k, s1, lo, hi, s2, rfl, rfl, rfl, rfl, k1, k2, k3, k4, k5, k6, k7, hS⟩ := hrel
        by_cases hlt : k < len0
        · have hB := hS.out.2.2.2.1
          obtain ⟨b', o', hp, hb', hc⟩ := (hG.out.1.below hB).cell (i := k) (by have := HL.out; omega)
          simp only [Option.some.injEq, Addr.mk.injEq, and_true] at hp
          obtain ⟨rfl, rfl⟩ := hp
          have hx := HX.out k (by have := HL.out; omega)
          have hx0 : k = 0 → z0.getD k 0 = lo := fun e => by subst e; rw [HX0.out, hS.out.2.1 rfl]
          obtain ⟨x, hxe⟩ : ∃ x, z0.getD k 0 = x := ⟨_, rfl⟩
          rw [hxe] at hc hx hx0
          have hst := Lib.hid (Stat.step hS.out.1 hx0)
          have hsq : 0 ≤ x * x ∧ x * x ≤ 4611686018427387904 := ⟨sq_nonneg x, sq_le (M := 2147483648) (by omega) (by omega)⟩
          have hlo := hS.out.1.1
          obtain ⟨nb, np, nl, nc, f1, f2, hnum⟩ := hS.out.2.2.cells
          have HNm := Lib.hid hnum
          have HK := Lib.hid hS.out.2.2.2
          have HOf := Lib.hid (fun w1 => of_any x w1 (by omega) (by omega))
          have HMul := Lib.hid (fun w1 u v (hu : IsNum w1 u x) (hv : IsNum w1 v x) => num_mul u v x x 8 w1 hu hv (sized8 (by omega) (by omega)) (sized8 (by omega) (by omega)) (by decide))
          have HAdd := Lib.hid (fun w1 u v (hu : IsNum w1 u s2) (hv : IsNum w1 v (x * x)) => num_add u v s2 (x * x) 8 w1 hu hv (sized8 (by omega) (by omega)) (sized8 (by omega) (by omega)) (by decide))
          have i0 : (0 : Int) ≤ (k : Int) := by omega
          have i1 : (k : Int) < (len0 : Int) := by omega
          have g1 : -2147483648 * ((k : Int) + 1) ≤ s1 + x := by omega
          have g2 : s1 + x ≤ 2147483647 * ((k : Int) + 1) := by omega
          have g3 : 0 ≤ s2 + x * x := by omega
          have g4 : s2 + x * x ≤ 4611686018427387904 * ((k : Int) + 1) := by omega
          have HG := Lib.hid (And.intro g3 g4)
          have hmn : -2147483648 ≤ min lo x := by omega
          have hmx : max hi x ≤ 2147483647 := by omega
          have hz1 := Lib.hid (fun e : k + 1 = 0 => by omega : k + 1 = 0 → min lo x = x0)
          clear hxe hx0 hnum hb' hS hsq g3 g4 k6 k7 hB
          go_wp2_with fail
          clear hc
          go_region_with (first
            | (go_at_call 17; first
                | (have tok := hq1; refine (HOf.out _).mono ?_; rintro e w4 ⟨q2, rfl, hq2, hb2⟩; have h2x := cell_later hb2 h1x; have h2y := cell_later hb2 h1y)
                | (refine (HOf.out _).mono ?_; rintro e w3 ⟨q1, rfl, hq1, hb1⟩; replace hb1 := below_drew' hb1; have h1x := cell_later hb1 f1; have h1y := cell_later hb1 f2))
            | (go_at_call 16; refine (HMul.out _ _ _ (hq1.below hb2) hq2).mono ?_; rintro e w5 ⟨q3, rfl, hq3, hb3⟩; have h3x := cell_later hb3 h2x; have h3y := cell_later hb3 h2y; have hb13 := hb1.trans ((hb2.trans (hb3.mono hb2.size)).mono hb1.size))
            | (go_at_call 15; refine (HAdd.out _ _ _ (HNm.out.below hb13) hq3).mono ?_; rintro e w6 ⟨q4, rfl, hq4, hb4⟩; have hk4 := HK.out.call (hb13.trans (hb4.mono hb13.size)); obtain ⟨rn, rp, rl, rc, rfl⟩ := hq4.shape; obtain ⟨⟨x2, hx2⟩, ⟨y2, hy2⟩, hf1, hf2⟩ := hk4.cells))
          all_goals
            have hNB := Lib.hid (box_store hk4 hq4)
            clear hk4 hq4 hb1 hb2 hb3 hb4 hb13 hq1 hq2 hq3 h1x h1y h2x h2y h3x h3y hx2 hy2 hf1 hf2 f1 f2 HOf HMul HAdd HNm HK
            go_wp2_with fail
            go_roundw
            case rel => exact ⟨k + 1, s1 + x, min lo x, max hi x, s2 + x * x, rfl, rfl, rfl, by go_num, by omega, hmn, hmx, by omega, by omega, HG.out.1, by have := HG.out.2; omega, Lib.hid ⟨hst.out, hz1.out, hNB.out⟩⟩
            case measure => simp [intOf]; omega
        · obtain rfl : k = len0 := by omega
          obtain ⟨nb, np, nl, nc, f1, f2, hnum⟩ := hS.out.2.2.cells
          have hBB := hS.out.2.2.2.1
          obtain ⟨S, rfl⟩ := Int.eq_ofNat_of_zero_le k6
          have hst := hS.out.1
          have HBB := Lib.hid hBB
          have hMb := mean_between (s := s1) (lo := lo) (hi := hi) (n := k) (by omega) hst.2.1 hst.2.2.1 (by omega) (by omega) hst.1
          have HM := Lib.hid (pmean_any s1 (k : Int) wr (by omega) (by omega) (by omega) (by omega) (HT.out.call hBB))
          rw [Int.natAbs_natCast] at HM
          have HS3 : S < 2 ^ (32 * 3) := Nat.lt_of_le_of_lt (show S ≤ 461168601842738790400 by omega) (by decide)
          have hbits : bitsZ (S : Int) ≤ 96 := by
            by_cases h0 : S = 0
            · subst h0; decide
            · exact bits_upto h0 HS3
          have HOr := Lib.hid (fun w1 v (hv : IsNum w1 v (S : Int)) => rof_any v (S : Int) w1 hv (by omega) ((sized8 (by omega) (by omega)).mono (by decide)))
          have HLs := Lib.hid (fun w1 v (hv : IsNat w1 v (S : Int)) => nat_list2 hv HS3)
          have HDv := Lib.hid (fun w1 v (a : List Int) (hb : Below w.heap.size w w1) (hv : WList w1 v a) (la : a.length ≤ 3) (ha : wv a = (S : Int)) => pdev_any (k : Int) s1 v a S w1 (by omega) (by omega) (by omega) (by omega) hv (by omega) ha (HT.out.call hb))
          have hlh := hst.1
          have HDf := Lib.hid (fun R (h : DevRes (k : Int) s1 S R) => dev_facts (n := k) (by omega) (by omega) rfl (Nat.le_trans hbits (by decide)) hst (by omega) h)
          have HNm := Lib.hid hnum
          have kl := key_int lo (by omega) (by omega)
          have kh := key_int hi (by omega) (by omega)
          have kd := key_int (hi - lo) (by omega) (by omega)
          have d0 : 0 ≤ hi - lo := by omega
          rw [if_neg (by omega)] at kd
          generalize signN (meanNeg s1 (k : Int)) (quoN s1.natAbs k) = RM at *
          have HMb := Lib.hid hMb
          have Hkl := Lib.hid kl
          have Hkh := Lib.hid kh
          have Hkd := Lib.hid kd
          have s1a : -214748364800 ≤ s1 := by omega
          have s1b : s1 ≤ 214748364800 := by omega
          clear hMb kl kh kd hst hBB hnum hS k5 k6 k7 hbits HS3 k4 hlt k1 HX0 HX hG HL
          go_wp2_with fail
          refine (HM.out).mono ?_; rintro r w3 ⟨rfl, hb3⟩
          have HB3 := Lib.hid (below_then HBB.out hb3)
          have h3x := cell_later hb3 f1
          have h3y := cell_later hb3 f2
          have HNm3 := Lib.hid (HNm.out.below hb3)
          clear hb3 f1 f2 HNm HM HBB
          go_wp2_with fail
          refine (HOr.out _ _ HNm3.out).mono ?_; rintro r w4 ⟨⟨u, rfl, hu⟩, hb4⟩
          obtain ⟨a, ha, la, ea⟩ := HLs.out _ _ hu
          have HB4 := Lib.hid (below_then HB3.out hb4)
          have HDv2 := Lib.hid (HDv.out w4 u a HB4.out ha la ea)
          obtain ⟨ub, ul, uc, rfl⟩ := isNat_shape hu
          clear hb4 hu ha la ea HDv HLs HNm3 HOr HB3 h3x h3y
          go_wp2_with fail
          refine (HDv2.out).mono ?_; rintro r w5 ⟨⟨R, hR, rfl⟩, hb5⟩
          obtain ⟨r1, r2⟩ := HDf.out R hR
          have HB5 := Lib.hid (below_then HB4.out hb5)
          have hRle : R ≤ 9218868437227405312 := Nat.le_trans r2 (fI_le (by omega))
          have hRn : notNan R := ⟨by omega, by omega⟩
          have hRk : skey R = R := skey_pos (by omega)
          have E1 := ord_ge HMb.out.1 Hkl.out.1 HMb.out.2.1
          have E2 := ord_le HMb.out.1 Hkh.out.1 HMb.out.2.2
          have E3 := ord_zero hRn hRk r1
          have E4 := ord_le hRn Hkd.out.1 (by rw [hRk, Hkd.out.2.2]; omega)
          have HBs := Lib.hid (And.intro (or_bool E1) (And.intro (or_bool E2) (or_bool E4)))
          clear hb5 hR r1 r2 hRle hRn hRk HDf HDv2 HB4 HMb Hkl Hkh Hkd
          go_wp2_with fail
          refine (hA.out _ HB5.out).mono ?_; rintro r w6 ⟨rfl, hb6⟩
          go_wp2_with fail
          go_ret
          exact ⟨ret_bool (by rw [HBs.out.1, HBs.out.2.1, HBs.out.2.2]; rfl), below_then HB5.out hb6⟩
set_option maxRecDepth 100000 in
theorem lifted (os : Os) (started : os.Started) (H : Type) (enc : TypeId × Value → H) :
    ReturnsInHanded {} Tryd.checked os 5 .any (fun w args => (Rows.ratioBetweenSpec.pre enc Tryd.prog Tryd.f5 [] false w args ∧ laidMetH Tryd.prog laid2 w) ∧ sizedMet enc Tryd.prog Tryd.f5 (OpenSpec.ofChange Rows.ratioBetweenSpec) false w args)
      (Rows.ratioBetweenSpec.post enc Tryd.prog Tryd.f5 false true false false) := by
  refine returnsInHanded_of_change_and (C := Tryd.checked) (X := fun w _ => laidMetH Tryd.prog laid2 w) (fun _ _ _ hh h => h.of_heap hh) own2 started (by kernel_rfl) Tryd.func5
    (ChangeSpec.witness_shaped (enc := enc) (C := Tryd.checked) (os := os) (X := fun w _ => laidMetH Tryd.prog laid2 w) false (World.doorLaid Tryd.prog 400 os) #[.slice none 0 0] 8 rfl (World.shaped_of_RefB (by kernel_rfl) (by kernel_rfl)) (by kernel_rfl) (by kernel_rfl) (by kernel_rfl) (door_met2 os _)) ?_
  intro W base args ds gs before hval0 hW _ _ hL _
  have hTab := tab_of hL
  have hval : ∀ (j : Nat) t v, Tryd.f5.params[j]? = some t → args[j]? = some v → Value.okWide Tryd.prog W .any base t v := hval0
  have hW' := hW
  obtain ⟨p, q, hA0, hV, rfl, hfz, hnd⟩ := hW
  have hA : DataW.TrodAll enc Tryd.prog W 0 (fun _ => true) true Tryd.f5.params.toList args.toList ds p := hA0
  rw [Tryd.params5] at hA hval
  obtain ⟨v0, vs0, d0, ds0, p0, q0, hargs, rfl, rfl, h0, r0⟩ := trodAll_cons hA
  obtain ⟨rfl, rfl, rfl⟩ := trodAll_nil r0
  obtain rfl : args = #[v0] := by cases args; simp_all
  obtain ⟨rfl, rfl⟩ := trodVars_none hV
  obtain ⟨a0, len0, cap0, rfl⟩ := okWide_slice Tryd.underlying36 (hval 0 36 v0 rfl rfl)
  have k0 := h0
  have lt0 : ∀ x ∈ p0, x.block < W.heap.size := by obtain ⟨m, hm⟩ := k0; exact DataW.trod_lt m _ _ _ hm
  obtain ⟨z0, w0, m0⟩ : ∃ zs, Given .i32 W (.slice a0 len0 cap0) zs ∧ len0 ≤ 9223372036854775807 := by
    obtain ⟨fuel, hf⟩ := h0
    rcases open_ints Tryd.underlying36 Tryd.underlying21 (by kernel_rfl) hf with ⟨hcs, _⟩ | ⟨x, l, c, zs, hcs, _, hl, hm, hz, _, hcell, hwz⟩
    · simp [Value.cells] at hcs
      obtain ⟨rfl, rfl, rfl⟩ := hcs
      exact ⟨[], given_nil, by decide⟩
    · simp [Value.cells] at hcs
      obtain ⟨rfl, rfl, rfl⟩ := hcs
      exact ⟨_, given_row hl (by simpa using hz) hcell hwz, by unfold maxLen at hm; omega⟩
  clear hA0 hval0
  refine (walk a0 len0 cap0 z0 W w0 m0 hTab).mono fun e W' ⟨he, bel⟩ => ?_
  subst he
  exact ⟨_, rfl, _, _, _, [], _, [], hW', trodAll_mk1 (shut_bool Tryd.underlying4 _), (trodAll_cons_mk (Below.trod laidOut2 (by kernel_rfl) (of_decide_eq_true (by kernel_rfl)) k0 bel lt0) trodAll_mk0), rfl, bel.frame _, fun h => by cases h⟩

theorem over : Rows.ratioBetweenRow.holds Tryd.pinned (OpenSpec.ofChange Rows.ratioBetweenSpec) :=
  OpenClaim.holds_of_wide 5 Tryd.f5 rfl rfl rfl rfl rfl rfl rfl ⟨rfl, rfl, rfl, rfl, rfl⟩ rfl rfl rfl rfl rfl (by kernel_rfl) Tryd.func5 (by kernel_rfl)
    (of_decide_eq_true (by kernel_rfl)) (by unfold Func.isWrapper; first | (rw [if_pos (by decide +kernel)]; kernel_rfl) | (rw [if_neg (by decide +kernel)]; exact ⟨rfl, rfl⟩))
    (fun os started H enc _ => lifted os started H enc)
theorem row_holds : Rows.RatioBetweenSaid := over
end Go.Proofs.YtjfcnpanodkmnaaDoor.ratioBetween
namespace Go.Proofs.YtjfcnpanodkmnaaDoor
/-- The statement: the tied card. -/
theorem ratioBetween_holds : Rows.RatioBetweenCardSaid :=
  Claim7.holds_tied_plain_at .later [] [.data] true _ false
    ratioBetween.row_holds (fun _ h => by cases h) (by kernel_rfl) (fun _ h => by cases h) ratioBetween_row_tie rfl ⟨rfl, rfl⟩ (by kernel_rfl) rfl
    (fun f fn hf hfn => by
      obtain rfl : f = 5 := Option.some.inj ((show Tryd.prog.funcNamed "bushel/bushellaw04.RatioBetween" = some 5 by kernel_rfl).symm.trans hf) |>.symm
      obtain rfl : fn = Tryd.f5 := (Option.some.inj (Tryd.func5.symm.trans hfn)).symm
      exact ⟨by kernel_rfl, fun j t ht => by
        rw [Tryd.params5] at ht
        have hm : t ∈ [36] := by simpa using Array.mem_of_getElem? ht
        have hall : ([36].all fun u => !Tryd.prog.wantsStandIn u) = true := by kernel_rfl
        exact (show Tryd.prog.wantsStandIn t = false by simpa using List.all_eq_true.1 hall t hm)⟩)
    (by kernel_rfl)
#print axioms ratioBetween_holds
end Go.Proofs.YtjfcnpanodkmnaaDoor
