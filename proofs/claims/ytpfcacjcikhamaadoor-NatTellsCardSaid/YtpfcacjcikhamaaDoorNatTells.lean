/- NatTells: for any two lists of words and any word the statement's function returns true and changes nothing that was there. No condition; the row lists math/bits.deBruijn32tab as the program's text lays it. -/
import Derived.Test.YtpfcacjcikhamaaDoorRows
import Derived.Test.YtpfcacjcikhamaaDoorCards
import Derived.Test.YtpfcacjcikhamaaDoorTie
import Derived.Test.YtpfcacjcikhamaaDoorOfr
import Derived.SevenTiedAt
import Derived.Deep.RegionHeld3
import Derived.Deep.DeepCutAuto
import Derived.Deep.CutBlock
namespace Go.Proofs.YtpfcacjcikhamaaDoor.natTells
set_option maxRecDepth 100000
open Go.ChangeShapes Go.WideShapes Go.ChangeAt Go.RowKit
set_option linter.unusedVariables false
theorem walk_long (a0 a1 : Option Addr) (len0 cap0 len1 cap1 : Nat) (x : Int) (w : World) (hT : Tab w) (h : ¬ (len0 ≤ 40 ∧ len1 ≤ 40)) (m0 : len0 ≤ 9223372036854775807) (m1 : len1 ≤ 9223372036854775807) :
    Calls Tryd.prog 3 #[.slice a0 len0 cap0, .slice a1 len1 cap1, .int .u64 x] w fun e w' => e = .returned (.bool true) ∧ Below w.heap.size w w' := by
  have HL := Lib.hid (light_any a0 a1 len0 len1 cap0 cap1 w m0 m1)
  have hl : (decide (len0 ≤ 40) && decide (len1 ≤ 40)) = false := by
    cases h1 : (decide (len0 ≤ 40) && decide (len1 ≤ 40)) with
    | false => rfl
    | true => simp at h1; exact absurd h1 h
  rw [hl] at HL
  clear hl h
  go_enter Tryd.func3, Tryd.ntmps3
  go_wp2_with fail
  refine (HL.out).mono ?_; rintro e w' ⟨rfl, rfl⟩
  go_wp2_with fail
  refine (awake2_any w hT).mono ?_; rintro e w' ⟨rfl, hb⟩
  go_wp2_with fail
  go_ret
  exact ⟨rfl, hb⟩
/-- The bit that the statement looks at is that bit of the number. -/
theorem word_bit {a : List Int} (hd : Wd a) {j t : Nat} (hj : j < a.length) (ht : t < 32) : a.getD j 0 / 2 ^ t % 2 = wv a / 2 ^ (32 * j + t) % 2 := by
  have h1 := wv_split a (k := j) (by omega)
  have h2 := wv_head (a := a.drop j) (by rw [List.length_drop]; omega)
  have e0 : (a.drop j).getD 0 0 = a.getD j 0 := by simp [List.getD]
  rw [e0] at h2
  have hr := wvN_range hd j
  have hp := q_pos j
  have e1 : (2 : Int) ^ (32 * j + t) = 4294967296 ^ j * 2 ^ t := by
    rw [Int.pow_add, pow32, Nat.mul_comm]
  have e2 : wv a / 4294967296 ^ j = wv (a.drop j) := by
    rw [h1, Int.add_mul_ediv_left _ _ (by omega), Int.ediv_eq_zero_of_lt hr.1 hr.2, Int.zero_add]
  rw [e1, ← Int.ediv_ediv_of_nonneg (by omega), e2, h2]
  obtain ⟨s, hs⟩ : ∃ s, 32 = t + (s + 1) := ⟨31 - t, by omega⟩
  have e3 : (4294967296 : Int) = 2 ^ t * (2 ^ s * 2) := by
    rw [← Int.pow_succ, ← Int.pow_add, ← hs]; rfl
  have hpt : (2 : Int) ^ t ≠ 0 := by have : (0 : Int) < 2 ^ t := Int.pow_pos (by decide); omega
  rw [e3, Int.mul_assoc, Int.add_mul_ediv_left _ _ hpt, Int.mul_assoc, Int.mul_comm (2 ^ s), Int.mul_assoc]
  omega
/-- n bits are nought. -/
def Low (z : Int) (n : Nat) : Prop := z = 2 ^ n * (z / 2 ^ n)
theorem Low.zero (z : Int) : Low z 0 := by simp [Low]
theorem Low.step {z : Int} {n : Nat} (h : Low z n) (hb : z / 2 ^ n % 2 = 0) : Low z (n + 1) := by
  unfold Low at *
  have hp : (0 : Int) < 2 ^ n := Int.pow_pos (by decide)
  have e : z / 2 ^ (n + 1) = z / 2 ^ n / 2 := by rw [Int.pow_succ, Int.ediv_ediv_of_nonneg (by omega)]
  rw [e, Int.pow_succ, Int.mul_assoc]
  have : 2 * (z / 2 ^ n / 2) = z / 2 ^ n := by omega
  rw [this]; exact h
theorem Low.stop {z : Int} {n : Nat} (h : Low z n) (h0 : 0 ≤ z) (hb : z / 2 ^ n % 2 = 1) : Halved z n := by
  have hp : (0 : Int) < 2 ^ n := Int.pow_pos (by decide)
  have hq : 0 ≤ z / 2 ^ n := Int.ediv_nonneg h0 (by omega)
  refine .inr ⟨(z / 2 ^ n / 2).toNat, ?_⟩
  have : (2 : Int) * ((z / 2 ^ n / 2).toNat : Int) + 1 = z / 2 ^ n := by omega
  rw [this]; exact h
theorem awake_from (w w1 : World) (hT : Tab w) (h : Below w.heap.size w w1) : Calls Tryd.prog 11 #[] w1 fun e w' => e = .returned (.bool true) ∧ Below w1.heap.size w1 w' := awake2_any w1 (hT.call h)
theorem fresh_nat {w w' : World} {z : Int} {m : Nat} {e : Ending} (h : Fresh w z m e w') (hm : m ≤ 1000000 := by omega) : ∃ u, e = .returned u ∧ IsNat w' u z ∧ Below w.heap.size w w' := by
  obtain ⟨v, a, h1, h2, h3, h4, h5, h6, h7⟩ := h
  exact ⟨v, h1, ⟨a, own_wlist h2 h3 (by omega), h4, h5⟩, h7⟩
theorem drew_below {w w' : World} {n : Nat} (h : w' = w.drewN n) : Below w.heap.size w w' := by
  subst h; exact below_drewN (Below.refl _ _) n
theorem bdrew {w W : World} (_h : Below w.heap.size w W) : Below W.heap.size W W.drew := (Below.refl _ _).drew
set_option maxHeartbeats 8000000 in
theorem walk_short (u v : Value) (a b : List Int) (x : Int) (w : World) (hu : WList w u a) (hv : WList w v b) (ka : a.length ≤ 40) (kb : b.length ≤ 40) (x0 : 0 ≤ x) (x1 : x ≤ 18446744073709551615) (hT : Tab w) :
    Calls Tryd.prog 3 #[u, v, .int .u64 x] w fun e w' => e = .returned (.bool true) ∧ Below w.heap.size w w' := by
  obtain ⟨p, c, rfl⟩ := hu.shape
  obtain ⟨q, d, rfl⟩ := hv.shape
  have hx2 : x < 4294967296 ^ 2 := by
    have : (4294967296 : Int) ^ 2 = 18446744073709551616 := by decide
    omega
  have HN0 := Lib.hid (fun w1 (h : Below w.heap.size w w1) => num_words _ a w1 (hu.below h) (by omega))
  have HN1 := Lib.hid (fun w1 (h : Below w.heap.size w w1) => num_words _ b w1 (hv.below h) (by omega))
  have hr0 := wv_range hu.2.1
  have hr1 := wv_range hv.2.1
  have hq0 := q_mono (m := a.length) (n := 40) ka
  have hq1 := q_mono (m := b.length) (n := 40) kb
  have ha40 : wv a < 4294967296 ^ 40 := by omega
  have hb40 : wv b < 4294967296 ^ 40 := by omega
  have hsa : Sized 1000 (wv a) := (sized_words hr0.1 ha40).mono (by omega)
  have hsb : Sized 1000 (wv b) := (sized_words hr1.1 hb40).mono (by omega)
  have HOf := Lib.hid (fun w1 y (hy : IsNum w1 y (wv a)) => rof_any y (wv a) w1 hy hr0.1 hsa)
  have HUi := Lib.hid (fun w1 (h : Below w.heap.size w w1) => uint_any _ a w1 (hu.below h))
  have h64s : Sized 1000 ((2 : Int) ^ 64) := sized_pow2 (by omega)
  have HT64 := Lib.hid (fun w1 => two_num 64 64 (Lib.hid (by decide)) w1 (by decide))
  have HC64 := Lib.hid (fun w1 y t (hy : IsNum w1 y (wv a)) (ht : IsNum w1 t (2 ^ 64)) => num_cmp y t (wv a) (2 ^ 64) 1000 w1 hy ht hsa h64s (by decide))
  have HRu := Lib.hid (fun w1 y (hy : IsNum w1 y (wv a)) (h : wv a < 18446744073709551616) => num_uint y (wv a) w1 hy (by omega) h)
  have HO := Lib.hid (fun w1 => of_any' x x0 x1 w1)
  have HNx := Lib.hid (fun w1 => nat_any x w1 x0 (by omega))
  have HIx := Lib.hid (fun w1 y t (hy : IsNat w1 y x) (ht : IsNum w1 t x) => isw_nat y t x 2 w1 hy hx2 (by decide) ht)
  have HTr := Lib.hid (fun w1 (h : Below w.heap.size w w1) => trim_any _ a w1 (hu.below h) _ rfl)
  have HIa := Lib.hid (fun w1 y t (hy : IsNat w1 y (wv a)) (ht : IsNum w1 t (wv a)) => isw_nat y t (wv a) 40 w1 hy ha40 (by decide) ht)
  have HCm := Lib.hid (fun w1 (h : Below w.heap.size w w1) => cmp_any _ _ a b w1 (hu.below h) (hv.below h))
  have HCr := Lib.hid (fun w1 y t (hy : IsNum w1 y (wv a)) (ht : IsNum w1 t (wv b)) => num_cmp y t (wv a) (wv b) 1000 w1 hy ht hsa hsb (by decide))
  have HBt := Lib.hid (fun w1 (h : Below w.heap.size w w1) => bits_any _ a w1 (hu.below h))
  have HBr := Lib.hid (fun w1 y (hy : IsNum w1 y (wv a)) => bits_ref y (wv a) w1 hy hr0.1 (by have := ha40; rw [pow32] at this; exact this))
  have HNo := Lib.hid (fun w1 (h : Below w.heap.size w w1) => noughts_any _ a w1 (hu.below h) (hT.call h))
  have HAw := Lib.hid (fun w1 (h : Below w.heap.size w w1) => awake_from w w1 hT h)
  have hlt := light_any p q a.length b.length c d w (by omega) (by omega)
  rw [decide_eq_true ka, decide_eq_true kb] at hlt
  have HL := Lib.hid hlt
  have H0 := Lib.hid hr0.1
  have HZ40 := Lib.hid ha40
  have hsm : smallB (wv a) = decide (wv a < 18446744073709551616) := rfl
  have hcm : decide (cmpI (wv a) (2 ^ 64) < 0) = decide (wv a < 18446744073709551616) := by
    rw [decide_eq_decide]
    have := cmpI_ge (x := wv a) (y := 2 ^ 64)
    have e : (2 : Int) ^ 64 = 18446744073709551616 := by decide
    omega
  have hna : ((wv a).natAbs : Int) = wv a := by omega
  rw [hna] at HRu
  generalize cmpI (wv a) (2 ^ 64) = c64 at *
  generalize cmpI (wv a) (wv b) = cab at *
  generalize bitsZ (wv a) = ba at *
  generalize wv a = z at *
  generalize wv b = zb at *
  clear hu hv hr0 hr1 hq0 hq1 ha40 hb40 hsa hsb h64s hna hT hx2 hlt
  go_enter Tryd.func3, Tryd.ntmps3
  go_wp2_with fail
  refine (HL.out).mono ?_; rintro e w0 ⟨rfl, rfl⟩
  clear HL
  go_wp2_with fail
  refine (HN0.out w (Below.refl _ _)).mono ?_; rintro e w1 ⟨P, rfl, hP, hb1⟩
  obtain ⟨pb, pp, pl, pc, rfl⟩ := hP.shape
  have HP := Lib.hid hP
  have HE := Lib.hid hb1
  clear hP hb1 HN0
  go_wp2_with fail
  refine (HN1.out w1 HE.out).mono ?_; rintro e w2 ⟨Q, rfl, hQ, hb2⟩
  obtain ⟨qb, qp, ql, qc, rfl⟩ := hQ.shape
  have hb3 := below_two w2 (.cells #[.bool pb, .slice pp pl pc] 28) (.cells #[.bool qb, .slice qp ql qc] 28)
  have hb23 := hb2.trans (hb3.mono hb2.size)
  have HP := Lib.hid (HP.out.below hb23)
  have HQ := Lib.hid (hQ.below hb3)
  have HE := Lib.hid (HE.out.trans (hb23.mono HE.out.size))
  have hF : Four' w2.heap.size (.bool pb) (.slice pp pl pc) (.bool qb) (.slice qp ql qc) ((w2.alloc (.cells #[.bool pb, .slice pp pl pc] 28)).alloc (.cells #[.bool qb, .slice qp ql qc] 28)) :=
    ⟨cell_later (below_one _ _) (by simp [go_sem]), cell_later (below_one _ _) (by simp [go_sem]), by simp [go_sem], by simp [go_sem]⟩
  have HF := Lib.hid hF
  clear hQ hb2 hb3 hb23 HN1 hF
  go_upto_region 5 with fail
  generalize (w2.alloc (.cells #[.bool pb, .slice pp pl pc] 28)).alloc (.cells #[.bool qb, .slice qp ql qc] 28) = W3 at *
  generalize w2.heap.size = M at *
  obtain ⟨f1, f2, f3, f4⟩ := HF.out
  go_wp2_with fail
  refine (HOf.out _ _ HP.out).mono ?_; rintro e w4 ⟨⟨k, rfl, hk⟩, hb4⟩
  have HP := Lib.hid (HP.out.below hb4)
  have HQ := Lib.hid (HQ.out.below hb4)
  have HE := Lib.hid (HE.out.trans (hb4.mono HE.out.size))
  have HF := Lib.hid (HF.out.call hb4)
  obtain ⟨kl, hkl, hkt, hkz⟩ := hk
  obtain ⟨kp, kc, rfl⟩ := hkl.shape
  have HK := Lib.hid (And.intro hkl (And.intro hkt hkz))
  have hkn : kl.length ≤ 1000 := by have := hkt.wlen hkl.2.1 (n := 40) (by rw [hkz]; exact HZ40.out); omega
  clear f1 f2 f3 f4 hb4 hkl hkt hkz HOf
  go_upto_block 0 with fail
  go_cut [9] from 25 to 44 (fun i wx => wx = w4 ∧ ∃ n : Nat, i = .int .i64 n ∧ n ≤ 32000 ∧ Hid (Halved z n))
  case first =>
    go_wp2_with fail
    go_loop [9] (fun i => ∃ n : Nat, n ≤ 32 * kl.length ∧ i = .int .i64 n ∧ Hid (Low z n)) (fun i => 32 * kl.length - (intOf i).toNat)
    case atStart => exact ⟨0, by omega, rfl, Lib.hid (Low.zero z)⟩
    case round =>
      obtain ⟨n, hn, rfl, hL⟩ := hrel
      by_cases hlt : n < 32 * kl.length
      · obtain ⟨j, hj⟩ : ∃ j, n / 32 = j := ⟨_, rfl⟩
        obtain ⟨t, ht⟩ : ∃ t, n % 32 = t := ⟨_, rfl⟩
        obtain ⟨b1, o1, hp1, hbk, hc⟩ := HK.out.1.1.cell (i := j) (by omega)
        subst hp1
        have hbit := word_bit HK.out.1.2.1 (j := j) (t := t) (by omega) (by omega)
        rw [HK.out.2.2, show 32 * j + t = n by omega] at hbit
        have hyb := HK.out.1.2.1.getD j
        generalize kl.getD j 0 = y at *
        have hdv : (n : Int) / 32 = (j : Int) := by omega
        have hmd : (n : Int) % 32 = (t : Int) := by omega
        have i0 : (0 : Int) ≤ (j : Int) := by omega
        have i1 : (j : Int) < (kl.length : Int) := by omega
        have hpt : (0 : Int) < 2 ^ t := Int.pow_pos (by decide)
        have hy2 : 0 ≤ y / 2 ^ t := Int.ediv_nonneg hyb.1 (by omega)
        have hlt2 : (n : Int) < 32 * (kl.length : Int) := by omega
        have hkn2 : (kl.length : Int) ≤ 1000 := by omega
        have ht32 : t < 32 := by omega
        have Hb := Lib.hid hbit
        obtain ⟨y0, y1⟩ := hyb
        clear hbit hj ht
        rcases Int.emod_two_eq (z / 2 ^ n) with he | he
        · have hN := Lib.hid (hL.out.step he)
          have ht0 : (y / 2 ^ t % 2 == 0) = true := by have := Hb.out; rw [he] at this; simpa using this
          clear he Hb hL
          go_wp2_with fail
          go_round
          case rel => exact ⟨n + 1, by omega, by go_num, hN⟩
          case measure => simp [intOf]; omega
        · have hN := Lib.hid (hL.out.stop H0.out he)
          have ht0 : (y / 2 ^ t % 2 == 0) = false := by have := Hb.out; rw [he] at this; simp; omega
          clear he Hb hL
          go_wp2_with fail
          go_meet
          exact ⟨rfl, n, rfl, by omega, hN⟩
      · obtain rfl : n = 32 * kl.length := by omega
        have hN : Hid (Halved z (32 * kl.length)) := Lib.hid (by
          have h1 := wv_range HK.out.1.2.1
          rw [HK.out.2.2, pow32, Nat.mul_comm] at h1
          have h2 := hL.out
          unfold Low at h2
          rw [Int.ediv_eq_zero_of_lt h1.1 h1.2] at h2
          have hz0 : z = 0 := by rw [h2]; simp
          have hk0 : kl = [] := (HK.out.2.1.wzero HK.out.1.2.1).1 (by rw [HK.out.2.2]; exact hz0)
          exact .inl ⟨hz0, by rw [hk0]; rfl⟩)
        have hc0 : ((32 * kl.length : Nat) : Int) = 32 * (kl.length : Int) := by omega
        have hle : 32 * kl.length ≤ 32000 := by omega
        have hkn2 : (kl.length : Int) ≤ 1000 := by omega
        clear hL
        go_wp2_with fail
        go_meet
        exact ⟨rfl, _, rfl, hle, hN⟩
  case rest =>
    obtain ⟨rfl, n, rfl, hn32, hH⟩ := hcut
    have hsc : (smallB z = true ∧ z < 18446744073709551616 ∧ c64 < 0) ∨ (smallB z = false ∧ 0 ≤ c64) := by
      by_cases h : z < 18446744073709551616
      · rw [decide_eq_true h, decide_eq_true_eq] at hcm
        exact .inl ⟨by rw [hsm]; simpa using h, h, hcm⟩
      · rw [decide_eq_false h, decide_eq_false_iff_not] at hcm
        exact .inr ⟨by rw [hsm]; simpa using h, by omega⟩
    clear hcm hsm HK hkn HZ40
    have HU2 := Lib.hid (HUi.out _ HE.out)
    clear HUi
    rcases hsc with ⟨hs, hz64, hc⟩ | ⟨hs, hc⟩
    · rw [hs] at HU2
      have HRu2 := Lib.hid (fun w1 y hy => HRu.out w1 y hy hz64)
      clear hs hz64 HRu
      go_wp2_with fail
      refine (HU2.out).mono ?_; rintro e w5 ⟨rfl, rfl⟩
      clear HU2
      go_wp2_with fail
      have hE0 := HE.out
      have hk : _ ∧ _ := ⟨(Four'.call HF.out (bdrew HE.out)).1, (Four'.call HF.out (bdrew HE.out)).2.1⟩
      have hBw := bdrew HE.out
      go_region_held3 (fun w' => w'.cell? ⟨M, 0, none⟩ = some (.bool pb) ∧ w'.cell? ⟨M, 1, none⟩ = some (.slice pp pl pc))
        (with_reducible exact hk)
        (first
          | (go_at_call 16; refine (HT64.out _).mono ?_; rintro e u1 ⟨t1, rfl, ht1, hb1⟩; have hk := And.intro (cell_later hb1 hk.1) (cell_later hb1 hk.2); have hBw := hBw.trans (hb1.mono hBw.size))
          | (go_at_call 15; refine (HC64.out _ _ _ (HP.out.below hBw) ht1).mono ?_; rintro e u2 ⟨rfl, hb2⟩; have hk := And.intro (cell_later hb2 hk.1) (cell_later hb2 hk.2); have hBw := hBw.trans (hb2.mono hBw.size)))
      have HP := Lib.hid (HP.out.below hBw)
      have HQ := Lib.hid (HQ.out.below hBw)
      have HF := Lib.hid (HF.out.call hBw)
      have HE := Lib.hid (hE0.trans (hBw.mono hE0.size))
      clear hk hBw hE0 hb1 hb2 ht1 HT64 HC64
      obtain ⟨f1, f2, f3, f4⟩ := HF.out
      go_wp2_with fail
      refine (HRu2.out _ _ HP.out).mono ?_; rintro e w7 ⟨rfl, hb7⟩
      have HP := Lib.hid (HP.out.below hb7)
      have HQ := Lib.hid (HQ.out.below hb7)
      have HF := Lib.hid (HF.out.call hb7)
      have HE := Lib.hid (HE.out.trans (hb7.mono HE.out.size))
      clear f1 f2 f3 f4 hb7 HRu2
      go_upto_region 12 with fail
      have hE0 := HE.out
      have hk := Four'.call HF.out (bdrew HE.out)
      have hBw := bdrew HE.out
      go_region_held3 (fun w' => w'.cell? ⟨M, 0, none⟩ = some (.bool pb) ∧ w'.cell? ⟨M, 1, none⟩ = some (.slice pp pl pc) ∧ w'.cell? ⟨M + 1, 0, none⟩ = some (.bool qb) ∧ w'.cell? ⟨M + 1, 1, none⟩ = some (.slice qp ql qc))
        (with_reducible exact hk)
        (first
          | (go_at_call 19; refine (HO.out _).mono ?_; rintro e v1 hv1; obtain ⟨o1, hv1, hc1⟩ := fresh_nat hv1; subst hv1; obtain ⟨hn1, hb1⟩ := hc1; have hk := Four'.call hk hb1; have hBw := hBw.trans (hb1.mono hBw.size))
          | (go_at_call 20; refine (HNx.out _).mono ?_; rintro e v2 ⟨o2, rfl, hn2, hb2⟩; have hk := Four'.call hk hb2; have hBw := hBw.trans (hb2.mono hBw.size))
          | (go_at_call_of 18 o2; refine (HIx.out _ _ _ (IsNat.below hn1 hb2) hn2).mono ?_; rintro e v3 ⟨rfl, hb3⟩; have hk := Four'.call hk hb3; have hBw := hBw.trans (hb3.mono hBw.size))
          | (go_at_call 21; refine (HTr.out _ (hE0.trans (hBw.mono hE0.size))).mono ?_; rintro e v4 hv4; obtain ⟨o4, hv4, hc4⟩ := fresh_nat hv4; subst hv4; obtain ⟨hn4, hb4⟩ := hc4; have hk := Four'.call hk hb4; have hBw := hBw.trans (hb4.mono hBw.size))
          | (go_at_call 18; refine (HIa.out _ _ _ hn4 (HP.out.below hBw)).mono ?_; rintro e v5 ⟨rfl, hb5⟩; have hk := Four'.call hk hb5; have hBw := hBw.trans (hb5.mono hBw.size))
          | (go_at_call 22; refine (HCm.out _ (hE0.trans (hBw.mono hE0.size))).mono ?_; rintro e v6 ⟨rfl, n6, rfl⟩; have hb6 := drew_below (w := v5) (n := n6) rfl; have hk := Four'.call hk hb6; have hBw := hBw.trans (hb6.mono hBw.size))
          | (go_at_call 15; refine (HCr.out _ _ _ (HP.out.below hBw) (HQ.out.below hBw)).mono ?_; rintro e v7 ⟨rfl, hb7⟩; have hk := Four'.call hk hb7; have hBw := hBw.trans (hb7.mono hBw.size))
          | (go_at_call 23; refine (HBt.out _ (hE0.trans (hBw.mono hE0.size))).mono ?_; rintro e v8 ⟨rfl, rfl⟩)
          | (go_at_call 24; refine (HBr.out _ _ (HP.out.below hBw)).mono ?_; rintro e v9 ⟨rfl, hb9⟩; have hk := Four'.call hk hb9; have hBw := hBw.trans (hb9.mono hBw.size))
          | (go_at_call 25; refine (HNo.out _ (hE0.trans (hBw.mono hE0.size))).mono ?_; rintro e v10 ⟨n2, rfl, hh2, rfl⟩; obtain rfl := halved_unique hh2 hH.out)
          | (go_at_call 11; refine (HAw.out _ (hE0.trans (hBw.mono hE0.size))).mono ?_; rintro e v11 ⟨rfl, hb11⟩; have hk := Four'.call hk hb11; have hBw := hBw.trans (hb11.mono hBw.size)))
      have hE := hE0.trans (hBw.mono hE0.size)
      clear hk hBw
      go_wp2_with fail
      go_ret
      exact ⟨ret_bool (by simp), hE⟩
    · rw [hs] at HU2
      clear hs HRu
      go_wp2_with fail
      refine (HU2.out).mono ?_; rintro e w5 ⟨rfl, rfl⟩
      clear HU2
      go_wp2_with fail
      have hE0 := HE.out
      have hk : _ ∧ _ := ⟨(Four'.call HF.out (bdrew HE.out)).1, (Four'.call HF.out (bdrew HE.out)).2.1⟩
      have hBw := bdrew HE.out
      go_region_held3 (fun w' => w'.cell? ⟨M, 0, none⟩ = some (.bool pb) ∧ w'.cell? ⟨M, 1, none⟩ = some (.slice pp pl pc))
        (with_reducible exact hk)
        (first
          | (go_at_call 16; refine (HT64.out _).mono ?_; rintro e u1 ⟨t1, rfl, ht1, hb1⟩; have hk := And.intro (cell_later hb1 hk.1) (cell_later hb1 hk.2); have hBw := hBw.trans (hb1.mono hBw.size))
          | (go_at_call 15; refine (HC64.out _ _ _ (HP.out.below hBw) ht1).mono ?_; rintro e u2 ⟨rfl, hb2⟩; have hk := And.intro (cell_later hb2 hk.1) (cell_later hb2 hk.2); have hBw := hBw.trans (hb2.mono hBw.size)))
      have HP := Lib.hid (HP.out.below hBw)
      have HQ := Lib.hid (HQ.out.below hBw)
      have HF := Lib.hid (HF.out.call hBw)
      have HE := Lib.hid (hE0.trans (hBw.mono hE0.size))
      clear hk hBw hE0 hb1 hb2 ht1 HT64 HC64
      go_upto_region 12 with fail
      have hE0 := HE.out
      have hk := Four'.call HF.out (bdrew HE.out)
      have hBw := bdrew HE.out
      go_region_held3 (fun w' => w'.cell? ⟨M, 0, none⟩ = some (.bool pb) ∧ w'.cell? ⟨M, 1, none⟩ = some (.slice pp pl pc) ∧ w'.cell? ⟨M + 1, 0, none⟩ = some (.bool qb) ∧ w'.cell? ⟨M + 1, 1, none⟩ = some (.slice qp ql qc))
        (with_reducible exact hk)
        (first
          | (go_at_call 19; refine (HO.out _).mono ?_; rintro e v1 hv1; obtain ⟨o1, hv1, hc1⟩ := fresh_nat hv1; subst hv1; obtain ⟨hn1, hb1⟩ := hc1; have hk := Four'.call hk hb1; have hBw := hBw.trans (hb1.mono hBw.size))
          | (go_at_call 20; refine (HNx.out _).mono ?_; rintro e v2 ⟨o2, rfl, hn2, hb2⟩; have hk := Four'.call hk hb2; have hBw := hBw.trans (hb2.mono hBw.size))
          | (go_at_call_of 18 o2; refine (HIx.out _ _ _ (IsNat.below hn1 hb2) hn2).mono ?_; rintro e v3 ⟨rfl, hb3⟩; have hk := Four'.call hk hb3; have hBw := hBw.trans (hb3.mono hBw.size))
          | (go_at_call 21; refine (HTr.out _ (hE0.trans (hBw.mono hE0.size))).mono ?_; rintro e v4 hv4; obtain ⟨o4, hv4, hc4⟩ := fresh_nat hv4; subst hv4; obtain ⟨hn4, hb4⟩ := hc4; have hk := Four'.call hk hb4; have hBw := hBw.trans (hb4.mono hBw.size))
          | (go_at_call 18; refine (HIa.out _ _ _ hn4 (HP.out.below hBw)).mono ?_; rintro e v5 ⟨rfl, hb5⟩; have hk := Four'.call hk hb5; have hBw := hBw.trans (hb5.mono hBw.size))
          | (go_at_call 22; refine (HCm.out _ (hE0.trans (hBw.mono hE0.size))).mono ?_; rintro e v6 ⟨rfl, n6, rfl⟩; have hb6 := drew_below (w := v5) (n := n6) rfl; have hk := Four'.call hk hb6; have hBw := hBw.trans (hb6.mono hBw.size))
          | (go_at_call 15; refine (HCr.out _ _ _ (HP.out.below hBw) (HQ.out.below hBw)).mono ?_; rintro e v7 ⟨rfl, hb7⟩; have hk := Four'.call hk hb7; have hBw := hBw.trans (hb7.mono hBw.size))
          | (go_at_call 23; refine (HBt.out _ (hE0.trans (hBw.mono hE0.size))).mono ?_; rintro e v8 ⟨rfl, rfl⟩)
          | (go_at_call 24; refine (HBr.out _ _ (HP.out.below hBw)).mono ?_; rintro e v9 ⟨rfl, hb9⟩; have hk := Four'.call hk hb9; have hBw := hBw.trans (hb9.mono hBw.size))
          | (go_at_call 25; refine (HNo.out _ (hE0.trans (hBw.mono hE0.size))).mono ?_; rintro e v10 ⟨n2, rfl, hh2, rfl⟩; obtain rfl := halved_unique hh2 hH.out)
          | (go_at_call 11; refine (HAw.out _ (hE0.trans (hBw.mono hE0.size))).mono ?_; rintro e v11 ⟨rfl, hb11⟩; have hk := Four'.call hk hb11; have hBw := hBw.trans (hb11.mono hBw.size)))
      have hE := hE0.trans (hBw.mono hE0.size)
      clear hk hBw
      go_wp2_with fail
      go_ret
      exact ⟨ret_bool (by simp), hE⟩
theorem walk (a0 : Option Addr) (len0 cap0 : Nat) (z0 : List Int) (a1 : Option Addr) (len1 cap1 : Nat) (z1 : List Int) (x : Int) (w : World) (g0 : Given .u32 w (.slice a0 len0 cap0) z0) (m0 : len0 ≤ 9223372036854775807) (g1 : Given .u32 w (.slice a1 len1 cap1) z1) (m1 : len1 ≤ 9223372036854775807) (wx : (Lit.int .u64 x).wf = true) (hT : Tab w) :
    Calls Tryd.prog 3 #[.slice a0 len0 cap0, .slice a1 len1 cap1, .int .u64 x] w fun e w' => e = .returned (.bool true) ∧ Below w.heap.size w w' := by
  have l0 := len_max g0
  have l1 := len_max g1
  have hx : 0 ≤ x ∧ x ≤ 18446744073709551615 := by simpa [Lit.wf, IntKind.min, IntKind.max, IntKind.signed, IntKind.bits] using wx
  by_cases h : len0 ≤ 40 ∧ len1 ≤ 40
  · exact walk_short _ _ z0 z1 x w (g0.wlist (by omega)) (g1.wlist (by omega)) (by omega) (by omega) hx.1 hx.2 hT
  · exact walk_long a0 a1 len0 cap0 len1 cap1 x w hT h m0 m1
set_option maxRecDepth 100000 in
theorem lifted (os : Os) (started : os.Started) (H : Type) (enc : TypeId × Value → H) :
    ReturnsInHanded {} Tryd.checked os 3 .any (fun w args => (Rows.natTellsSpec.pre enc Tryd.prog Tryd.f3 [] false w args ∧ laidMetH Tryd.prog laid2 w) ∧ sizedMet enc Tryd.prog Tryd.f3 (OpenSpec.ofChange Rows.natTellsSpec) false w args)
      (Rows.natTellsSpec.post enc Tryd.prog Tryd.f3 false true false false) := by
  refine returnsInHanded_of_change_and (C := Tryd.checked) (X := fun w _ => laidMetH Tryd.prog laid2 w) (fun _ _ _ hh h => h.of_heap hh) own2 started (by kernel_rfl) Tryd.func3
    (ChangeSpec.witness_shaped (enc := enc) (C := Tryd.checked) (os := os) (X := fun w _ => laidMetH Tryd.prog laid2 w) false (World.doorLaid Tryd.prog 400 os) #[.slice none 0 0, .slice none 0 0, .int .u64 0] 8 rfl (World.shaped_of_RefB (by kernel_rfl) (by kernel_rfl)) (by kernel_rfl) (by kernel_rfl) (by kernel_rfl) (door_met2 os _)) ?_
  intro W base args ds gs before hval0 hW _ _ hL _
  have hTab := tab_of hL
  have hval : ∀ (j : Nat) t v, Tryd.f3.params[j]? = some t → args[j]? = some v → Value.okWide Tryd.prog W .any base t v := hval0
  have hW' := hW
  obtain ⟨p, q, hA0, hV, rfl, hfz, hnd⟩ := hW
  have hA : DataW.TrodAll enc Tryd.prog W 0 (fun _ => true) true Tryd.f3.params.toList args.toList ds p := hA0
  rw [Tryd.params3] at hA hval
  obtain ⟨v0, vs0, d0, ds0, p0, q0, hargs, rfl, rfl, h0, r0⟩ := trodAll_cons hA
  obtain ⟨v1, vs1, d1, ds1, p1, q1, rfl, rfl, rfl, h1, r1⟩ := trodAll_cons r0
  obtain ⟨v2, vs2, d2, ds2, p2, q2, rfl, rfl, rfl, h2, r2⟩ := trodAll_cons r1
  obtain ⟨rfl, rfl, rfl⟩ := trodAll_nil r2
  obtain rfl : args = #[v0, v1, v2] := by cases args; simp_all
  obtain ⟨rfl, rfl⟩ := trodVars_none hV
  obtain ⟨a0, len0, cap0, rfl⟩ := okWide_slice Tryd.underlying22 (hval 0 22 v0 rfl rfl)
  have k0 := h0
  have lt0 : ∀ x ∈ p0, x.block < W.heap.size := by obtain ⟨m, hm⟩ := k0; exact DataW.trod_lt m _ _ _ hm
  obtain ⟨z0, w0, m0⟩ : ∃ zs, Given .u32 W (.slice a0 len0 cap0) zs ∧ len0 ≤ 9223372036854775807 := by
    obtain ⟨fuel, hf⟩ := h0
    rcases open_ints Tryd.underlying22 Tryd.underlying31 (by kernel_rfl) hf with ⟨hcs, _⟩ | ⟨x, l, c, zs, hcs, _, hl, hm, hz, _, hcell, hwz⟩
    · simp [Value.cells] at hcs
      obtain ⟨rfl, rfl, rfl⟩ := hcs
      exact ⟨[], given_nil, by decide⟩
    · simp [Value.cells] at hcs
      obtain ⟨rfl, rfl, rfl⟩ := hcs
      exact ⟨_, given_row hl (by simpa using hz) hcell hwz, by unfold maxLen at hm; omega⟩
  obtain ⟨a1, len1, cap1, rfl⟩ := okWide_slice Tryd.underlying22 (hval 1 22 v1 rfl rfl)
  have k1 := h1
  have lt1 : ∀ x ∈ p1, x.block < W.heap.size := by obtain ⟨m, hm⟩ := k1; exact DataW.trod_lt m _ _ _ hm
  obtain ⟨z1, w1, m1⟩ : ∃ zs, Given .u32 W (.slice a1 len1 cap1) zs ∧ len1 ≤ 9223372036854775807 := by
    obtain ⟨fuel, hf⟩ := h1
    rcases open_ints Tryd.underlying22 Tryd.underlying31 (by kernel_rfl) hf with ⟨hcs, _⟩ | ⟨x, l, c, zs, hcs, _, hl, hm, hz, _, hcell, hwz⟩
    · simp [Value.cells] at hcs
      obtain ⟨rfl, rfl, rfl⟩ := hcs
      exact ⟨[], given_nil, by decide⟩
    · simp [Value.cells] at hcs
      obtain ⟨rfl, rfl, rfl⟩ := hcs
      exact ⟨_, given_row hl (by simpa using hz) hcell hwz, by unfold maxLen at hm; omega⟩
  obtain ⟨a2, rfl, rfl, rfl, w2⟩ := open_int Tryd.underlying23 (hval 2 23 v2 rfl rfl) h2
  clear hA0 hval0
  refine (walk a0 len0 cap0 z0 a1 len1 cap1 z1 a2 W w0 m0 w1 m1 w2 hTab).mono fun e W' ⟨he, bel⟩ => ?_
  subst he
  exact ⟨_, rfl, _, _, _, [], _, [], hW', trodAll_mk1 (shut_bool Tryd.underlying4 _), (trodAll_cons_mk (Below.trod laidOut2 (by kernel_rfl) (of_decide_eq_true (by kernel_rfl)) k0 bel lt0) (trodAll_cons_mk (Below.trod laidOut2 (by kernel_rfl) (of_decide_eq_true (by kernel_rfl)) k1 bel lt1) (trodAll_cons_mk (shut_int Tryd.underlying23 w2) trodAll_mk0))), rfl, bel.frame _, fun h => by cases h⟩

theorem over : Rows.natTellsRow.holds Tryd.pinned (OpenSpec.ofChange Rows.natTellsSpec) :=
  OpenClaim.holds_of_wide 3 Tryd.f3 rfl rfl rfl rfl rfl rfl rfl ⟨rfl, rfl, rfl, rfl, rfl⟩ rfl rfl rfl rfl rfl (by kernel_rfl) Tryd.func3 (by kernel_rfl)
    (of_decide_eq_true (by kernel_rfl)) (by unfold Func.isWrapper; first | (rw [if_pos (by decide +kernel)]; kernel_rfl) | (rw [if_neg (by decide +kernel)]; exact ⟨rfl, rfl⟩))
    (fun os started H enc _ => lifted os started H enc)
theorem row_holds : Rows.NatTellsSaid := over
end Go.Proofs.YtpfcacjcikhamaaDoor.natTells
namespace Go.Proofs.YtpfcacjcikhamaaDoor
/-- The statement: the tied card. -/
theorem natTells_holds : Rows.NatTellsCardSaid :=
  Claim7.holds_tied_plain_at .later [] [.data] true _ false
    natTells.row_holds (fun _ h => by cases h) (by kernel_rfl) (fun _ h => by cases h) natTells_row_tie rfl ⟨rfl, rfl⟩ (by kernel_rfl) rfl
    (fun f fn hf hfn => by
      obtain rfl : f = 3 := Option.some.inj ((show Tryd.prog.funcNamed "bushel/bushellaw02.NatTells" = some 3 by kernel_rfl).symm.trans hf) |>.symm
      obtain rfl : fn = Tryd.f3 := (Option.some.inj (Tryd.func3.symm.trans hfn)).symm
      exact ⟨by kernel_rfl, fun j t ht => by
        rw [Tryd.params3] at ht
        have hm : t ∈ [22, 22, 23] := by simpa using Array.mem_of_getElem? ht
        have hall : ([22, 22, 23].all fun u => !Tryd.prog.wantsStandIn u) = true := by kernel_rfl
        exact (show Tryd.prog.wantsStandIn t = false by simpa using List.all_eq_true.1 hall t hm)⟩)
    (by kernel_rfl)
#print axioms natTells_holds
end Go.Proofs.YtpfcacjcikhamaaDoor
