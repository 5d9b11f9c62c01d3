/- NatDivides: for any two lists of words the statement's function returns true and changes nothing that was there. No condition; the row lists math/bits.deBruijn32tab as the program's text lays it. -/
import Derived.Test.YtfaglcfoamfelaaDoorRows
import Derived.Test.YtfaglcfoamfelaaDoorCards
import Derived.Test.YtfaglcfoamfelaaDoorTie
import Derived.Test.YtfaglcfoamfelaaDoorLaid2
import Derived.Test.YtfaglcfoamfelaaDoorNumx
import Derived.Test.YtfaglcfoamfelaaDoorLongf
import Derived.Test.YtfaglcfoamfelaaDoorDivw
import Derived.SevenTiedAt
namespace Go.Proofs.YtfaglcfoamfelaaDoor.natDivides
open Go.ChangeShapes Go.WideShapes Go.ChangeAt Go.RowKit
set_option linter.unusedVariables false
set_option maxRecDepth 100000 in
set_option maxHeartbeats 1000000 in
theorem walk_long (a0 : Option Addr) (len0 cap0 : Nat) (a1 : Option Addr) (len1 cap1 : Nat) (w : World) (hT : Tab w) (h : 40 < len0 ∨ 40 < len1) (m0 : len0 ≤ 9223372036854775807) (m1 : len1 ≤ 9223372036854775807) :
    Calls Tryd.prog 5 #[.slice a0 len0 cap0, .slice a1 len1 cap1] w fun e w' => e = .returned (.bool true) ∧ Below w.heap.size w w' := by
  have hL := light_any a0 a1 len0 len1 cap0 cap1 w m0 m1
  have e : (decide (len0 ≤ 40) && decide (len1 ≤ 40)) = false := by simp; omega
  rw [e] at hL
  have HL := Lib.hid hL
  clear hL e
  go_enter Tryd.func5, Tryd.ntmps5
  go_wp2_with fail
  refine (HL.out).mono ?_; rintro e w' ⟨rfl, rfl⟩
  go_wp2_with fail
  refine (awake2_any w hT).mono ?_; rintro e w' ⟨rfl, hb⟩
  go_wp2_with fail
  go_ret
  exact ⟨rfl, hb⟩
theorem num_len {w : World} {v : Value} {z : Int} (h : IsNum w v z) : ∃ b p l c, v = .agg #[.bool b, .slice p l c] ∧ (z = 0 → l = 0) ∧ (l = 0 → z = 0) := by
  obtain ⟨b, s, ds, rfl, ⟨p, c, rfl, -⟩, -, hd, ht, hne, rfl⟩ := h
  refine ⟨b, p, _, c, rfl, fun h => ?_, fun h => ?_⟩
  · have : val ds = 0 := by cases b <;> simpa [signed] using h
    rw [(ht.zero hd).1 this]; rfl
  · have : ds = [] := List.eq_nil_of_length_eq_zero h
    subst this
    cases b <;> simp [signed, val_nil]
set_option maxRecDepth 100000 in
set_option maxHeartbeats 2000000 in
theorem walk_none (a0 : Option Addr) (len0 cap0 : Nat) (z0 : List Int) (a1 : Option Addr) (len1 cap1 : Nat) (z1 : List Int) (w : World) (g0 : WList w (.slice a0 len0 cap0) z0) (g1 : WList w (.slice a1 len1 cap1) z1) (l0 : z0.length = len0) (l1 : z1.length = len1) (hT : Tab w) (k0 : len0 ≤ 40) (k1 : len1 ≤ 40) (hz : wv z1 = 0) :
    Calls Tryd.prog 5 #[.slice a0 len0 cap0, .slice a1 len1 cap1] w fun e w' => e = .returned (.bool true) ∧ Below w.heap.size w w' := by
  have hL := light_any a0 a1 len0 len1 cap0 cap1 w (by omega) (by omega)
  have e : (decide (len0 ≤ 40) && decide (len1 ≤ 40)) = true := by simp; omega
  rw [e] at hL
  have HL := Lib.hid hL
  have HU := Lib.hid g0
  have HV := Lib.hid g1
  have HT := Lib.hid hT
  have HN0 := Lib.hid (fun w1 (h : Below w.heap.size w w1) => num_words _ z0 w1 (HU.out.below h) (by omega))
  have HN1 := Lib.hid (fun w1 (h : Below w.heap.size w w1) => num_words _ z1 w1 (HV.out.below h) (by omega))
  have HD := Lib.hid (fun w1 (h : Below w.heap.size w w1) => div_zero (.slice a0 len0 cap0) _ z1 w1 (HV.out.below h) hz)
  clear hL e g0 g1 hT
  go_enter Tryd.func5, Tryd.ntmps5
  go_wp2_with fail
  refine (HL.out).mono ?_; rintro e w' ⟨rfl, rfl⟩
  go_wp2_with fail
  refine (HN0.out _ (Below.refl _ _)).mono ?_; rintro e w2 ⟨x, rfl, hx, hb2⟩
  go_wp2_with fail
  refine (HN1.out _ hb2).mono ?_; rintro e w3 ⟨y, rfl, hy, hb3⟩
  obtain ⟨yb, yp, yl, yc, rfl, hy0, -⟩ := num_len hy
  obtain rfl : yl = 0 := hy0 hz
  obtain ⟨xb, xp, xl, xc, rfl⟩ := hx.shape
  have hE := Lib.hid (hb2.trans (hb3.mono hb2.size))
  clear hb2 hb3 hx hy hy0 HN0 HN1 HL
  have hb4 := below_two w3 (.cells #[.bool xb, .slice xp xl xc] 28) (.cells #[.bool yb, .slice yp 0 yc] 28)
  have hE4 := Lib.hid (hE.out.trans (hb4.mono hE.out.size))
  clear hb4 hE
  go_wp2_with fail
  have hF4 : Four' w3.heap.size (.bool xb) (.slice xp xl xc) (.bool yb) (.slice yp 0 yc) ((w3.alloc (.cells #[.bool xb, .slice xp xl xc] 28)).alloc (.cells #[.bool yb, .slice yp 0 yc] 28)) := ⟨by simp [go_sem], by simp [go_sem], by simp [go_sem], by simp [go_sem]⟩
  generalize (w3.alloc (.cells #[.bool xb, .slice xp xl xc] 28)).alloc (.cells #[.bool yb, .slice yp 0 yc] 28) = w4 at *
  have HD4 := Lib.hid (HD.out w4 hE4.out)
  clear HD
  have hF4 := Lib.hid hF4
  refine (HD4.out).mono ?_; rintro e w5 ⟨rfl, hb5⟩
  obtain ⟨f1, f2, f3, f4⟩ := Four'.call hF4.out hb5
  have hE5 := Lib.hid (hE4.out.trans (hb5.mono hE4.out.size))
  clear hb5 HD4 hE4 hF4
  go_wp2_with fail
  refine (awake2_any _ (HT.out.call hE5.out)).mono ?_; rintro e w6 ⟨rfl, hb6⟩
  have hE := hE5.out.trans (hb6.mono hE5.out.size)
  go_wp2_with fail
  go_ret
  exact ⟨ret_bool (by simp), hE⟩
theorem sized40 {z : Int} (h0 : 0 ≤ z) (h1 : z < 4294967296 ^ 40) : Sized 200 z := (sized_words h0 h1).mono (by omega)
set_option maxRecDepth 100000 in
set_option maxHeartbeats 2000000 in
theorem walk_some (a0 : Option Addr) (len0 cap0 : Nat) (z0 : List Int) (a1 : Option Addr) (len1 cap1 : Nat) (z1 : List Int) (w : World) (g0 : WList w (.slice a0 len0 cap0) z0) (g1 : WList w (.slice a1 len1 cap1) z1) (l0 : z0.length = len0) (l1 : z1.length = len1) (hT : Tab w) (k0 : len0 ≤ 40) (k1 : len1 ≤ 40) (hz : 0 < wv z1) :
    Calls Tryd.prog 5 #[.slice a0 len0 cap0, .slice a1 len1 cap1] w fun e w' => e = .returned (.bool true) ∧ Below w.heap.size w w' := by
  have hL := light_any a0 a1 len0 len1 cap0 cap1 w (by omega) (by omega)
  have e : (decide (len0 ≤ 40) && decide (len1 ≤ 40)) = true := by simp; omega
  rw [e] at hL
  have HL := Lib.hid hL
  have HU := Lib.hid g0
  have HV := Lib.hid g1
  have HT := Lib.hid hT
  have hr0 := wv_range g0.2.1
  have hr1 := wv_range g1.2.1
  have hq0 := q_mono (m := z0.length) (n := 40) (by omega)
  have hq1 := q_mono (m := z1.length) (n := 40) (by omega)
  have hs0 : Sized 200 (wv z0) := sized40 hr0.1 (by omega)
  have hs1 : Sized 200 (wv z1) := sized40 hr1.1 (by omega)
  have hx : wv z0 / wv z1 < 4294967296 ^ 40 := Int.lt_of_le_of_lt (Int.ediv_le_self _ hr0.1) (by omega)
  have hy : wv z0 % wv z1 < 4294967296 ^ 40 := by
    have k1 := Int.mul_nonneg (Int.le_of_lt hz) (Int.ediv_nonneg hr0.1 (Int.le_of_lt hz))
    have k2 := Int.emod_add_mul_ediv (wv z0) (wv z1)
    omega
  have hS := Lib.hid (And.intro hx hy)
  have HN0 := Lib.hid (fun w1 (h : Below w.heap.size w w1) => num_words _ z0 w1 (HU.out.below h) (by omega))
  have HN1 := Lib.hid (fun w1 (h : Below w.heap.size w w1) => num_words _ z1 w1 (HV.out.below h) (by omega))
  have HD := Lib.hid (fun w1 (h : Below w.heap.size w w1) => div_any _ _ z0 z1 w1 (HU.out.below h) (HV.out.below h) (by omega) hz)
  have RD := Lib.hid (fun w1 u v (hu : IsNum w1 u (wv z0)) (hv : IsNum w1 v (wv z1)) => num_div u v _ _ 200 w1 hu hv hs0 hs1 (by decide) (by omega))
  rw [Int.fdiv_eq_ediv_of_nonneg _ hr1.1, Int.fmod_eq_emod_of_nonneg _ hr1.1] at RD
  clear hL e g0 g1 hT hr0 hr1 hq0 hq1 hs0 hs1 hx hy
  go_enter Tryd.func5, Tryd.ntmps5
  go_wp2_with fail
  refine (HL.out).mono ?_; rintro e w' ⟨rfl, rfl⟩
  go_wp2_with fail
  refine (HN0.out _ (Below.refl _ _)).mono ?_; rintro e w2 ⟨x, rfl, hx, hb2⟩
  go_wp2_with fail
  refine (HN1.out _ hb2).mono ?_; rintro e w3 ⟨y, rfl, hy, hb3⟩
  obtain ⟨yb, yp, yl, yc, rfl, -, hy0⟩ := num_len hy
  have hyl : ((yl : Int) == 0) = false := by simp; intro h; have := hy0 h; omega
  have hx := hx.below hb3
  obtain ⟨xb, xp, xl, xc, rfl⟩ := hx.shape
  have hE := Lib.hid (hb2.trans (hb3.mono hb2.size))
  have hb4 := below_two w3 (.cells #[.bool xb, .slice xp xl xc] 28) (.cells #[.bool yb, .slice yp yl yc] 28)
  have hE4 := Lib.hid (hE.out.trans (hb4.mono hE.out.size))
  have HX4 := Lib.hid (hx.below hb4)
  have HY4 := Lib.hid (hy.below hb4)
  clear hb2 hb3 hb4 hx hy hE hy0 HN0 HN1 HL
  go_wp2_with fail
  have hF4 : Four' w3.heap.size (.bool xb) (.slice xp xl xc) (.bool yb) (.slice yp yl yc) ((w3.alloc (.cells #[.bool xb, .slice xp xl xc] 28)).alloc (.cells #[.bool yb, .slice yp yl yc] 28)) := ⟨by simp [go_sem], by simp [go_sem], by simp [go_sem], by simp [go_sem]⟩
  generalize (w3.alloc (.cells #[.bool xb, .slice xp xl xc] 28)).alloc (.cells #[.bool yb, .slice yp yl yc] 28) = w4 at *
  have HD4 := Lib.hid (HD.out w4 hE4.out)
  clear HD
  have hF4 := Lib.hid hF4
  refine (HD4.out).mono ?_; rintro e w5 ⟨v1, v2, rfl, hq, hr, hb5⟩
  obtain ⟨p1, c1, s1⟩ := id hq
  have hF5 := Four'.call hF4.out hb5
  obtain ⟨f1, f2, f3, f4⟩ := hF5
  have hE5 := Lib.hid (hE4.out.trans (hb5.mono hE4.out.size))
  have RD5 := Lib.hid (RD.out w5 _ _ (HX4.out.below hb5) (HY4.out.below hb5))
  have HQ := Lib.hid hq
  have HR := Lib.hid hr
  clear hb5 HD4 hE4 hF4 hq hr s1 HX4 HY4 RD
  go_wp2_with fail
  refine (RD5.out).mono ?_; rintro e w6 ⟨v3, v4, rfl, h3, h4, hb6⟩
  obtain ⟨tb, tp, tl, tc, rfl⟩ := h3.shape
  obtain ⟨ub, up, ul, uc, rfl⟩ := h4.shape
  have hE6 := hE5.out.trans (hb6.mono hE5.out.size)
  have hb7 := below_two w6 (.cells #[.bool tb, .slice tp tl tc] 28) (.cells #[.bool ub, .slice up ul uc] 28)
  have hE7 := Lib.hid (hE6.trans (hb7.mono hE6.size))
  have HQ7 := Lib.hid ((HQ.out.below hb6).below hb7)
  have HR7 := Lib.hid ((HR.out.below hb6).below hb7)
  have H3 := Lib.hid (h3.below hb7)
  have H4 := Lib.hid (h4.below hb7)
  clear h3 h4 hb6 hb7 hE6 HQ HR hE5 RD5 f1 f2 f3 f4
  go_wp2_with fail
  have hF7 : Four' w6.heap.size (.bool tb) (.slice tp tl tc) (.bool ub) (.slice up ul uc) ((w6.alloc (.cells #[.bool tb, .slice tp tl tc] 28)).alloc (.cells #[.bool ub, .slice up ul uc] 28)) := ⟨by simp [go_sem], by simp [go_sem], by simp [go_sem], by simp [go_sem]⟩
  generalize (w6.alloc (.cells #[.bool tb, .slice tp tl tc] 28)).alloc (.cells #[.bool ub, .slice up ul uc] 28) = w7 at *
  refine (isw_nat v1 _ _ 40 w7 HQ7.out hS.out.1 (by decide) H3.out).mono ?_; rintro e w8 ⟨rfl, hb8⟩
  obtain ⟨f1, f2, f3, f4⟩ := Four'.call hF7 hb8
  have hE8 := Lib.hid (hE7.out.trans (hb8.mono hE7.out.size))
  have HI2 := Lib.hid (isw_nat v2 _ _ 40 w8 (HR7.out.below hb8) hS.out.2 (by decide) (H4.out.below hb8))
  clear hb8 hF7 HQ7 HR7 H3 H4 hE7
  go_wp2_with fail
  refine (HI2.out).mono ?_; rintro e w9 ⟨rfl, hb9⟩
  have hE9 := Lib.hid (hE8.out.trans (hb9.mono hE8.out.size))
  clear hb9 HI2 hE8
  go_wp2_with fail
  refine (awake2_any _ (HT.out.call hE9.out)).mono ?_; rintro e w10 ⟨rfl, hb10⟩
  have hE := hE9.out.trans (hb10.mono hE9.out.size)
  go_wp2_with fail
  go_ret
  exact ⟨ret_bool (by simp), hE⟩
theorem walk_short (a0 : Option Addr) (len0 cap0 : Nat) (z0 : List Int) (a1 : Option Addr) (len1 cap1 : Nat) (z1 : List Int) (w : World) (g0 : WList w (.slice a0 len0 cap0) z0) (g1 : WList w (.slice a1 len1 cap1) z1) (l0 : z0.length = len0) (l1 : z1.length = len1) (hT : Tab w) (k0 : len0 ≤ 40) (k1 : len1 ≤ 40) :
    Calls Tryd.prog 5 #[.slice a0 len0 cap0, .slice a1 len1 cap1] w fun e w' => e = .returned (.bool true) ∧ Below w.heap.size w w' := by
  have h := (wv_range g1.2.1).1
  by_cases hz : wv z1 = 0
  · exact walk_none a0 len0 cap0 z0 a1 len1 cap1 z1 w g0 g1 l0 l1 hT k0 k1 hz
  · exact walk_some a0 len0 cap0 z0 a1 len1 cap1 z1 w g0 g1 l0 l1 hT k0 k1 (by omega)
theorem walk (a0 : Option Addr) (len0 cap0 : Nat) (z0 : List Int) (a1 : Option Addr) (len1 cap1 : Nat) (z1 : List Int) (w : World) (g0 : Given .u32 w (.slice a0 len0 cap0) z0) (m0 : len0 ≤ 9223372036854775807) (g1 : Given .u32 w (.slice a1 len1 cap1) z1) (m1 : len1 ≤ 9223372036854775807) (hT : Tab w) :
    Calls Tryd.prog 5 #[.slice a0 len0 cap0, .slice a1 len1 cap1] w fun e w' => e = .returned (.bool true) ∧ Below w.heap.size w w' := by
  have l0 := len_max g0
  have l1 := len_max g1
  by_cases h : len0 ≤ 40 ∧ len1 ≤ 40
  · exact walk_short a0 len0 cap0 z0 a1 len1 cap1 z1 w (g0.wlist (by omega)) (g1.wlist (by omega)) l0 l1 hT h.1 h.2
  · exact walk_long a0 len0 cap0 a1 len1 cap1 w hT (by omega) m0 m1
set_option maxRecDepth 100000 in
theorem lifted (os : Os) (started : os.Started) (H : Type) (enc : TypeId × Value → H) :
    ReturnsInHanded {} Tryd.checked os 5 .any (fun w args => (Rows.natDividesSpec.pre enc Tryd.prog Tryd.f5 [] false w args ∧ laidMetH Tryd.prog laid2 w) ∧ sizedMet enc Tryd.prog Tryd.f5 (OpenSpec.ofChange Rows.natDividesSpec) false w args)
      (Rows.natDividesSpec.post enc Tryd.prog Tryd.f5 false true false false) := by
  refine returnsInHanded_of_change_and (C := Tryd.checked) (X := fun w _ => laidMetH Tryd.prog laid2 w) (fun _ _ _ hh h => h.of_heap hh) own2 started (by kernel_rfl) Tryd.func5
    (ChangeSpec.witness_shaped (enc := enc) (C := Tryd.checked) (os := os) (X := fun w _ => laidMetH Tryd.prog laid2 w) false (World.doorLaid Tryd.prog 400 os) #[.slice none 0 0, .slice none 0 0] 8 rfl (World.shaped_of_RefB (by kernel_rfl) (by kernel_rfl)) (by kernel_rfl) (by kernel_rfl) (by kernel_rfl) (door_met2 os _)) ?_
  intro W base args ds gs before hval0 hW _ _ hL _
  have hTab := tab_of hL
  have hval : ∀ (j : Nat) t v, Tryd.f5.params[j]? = some t → args[j]? = some v → Value.okWide Tryd.prog W .any base t v := hval0
  have hW' := hW
  obtain ⟨p, q, hA0, hV, rfl, hfz, hnd⟩ := hW
  have hA : DataW.TrodAll enc Tryd.prog W 0 (fun _ => true) true Tryd.f5.params.toList args.toList ds p := hA0
  rw [Tryd.params5] at hA hval
  obtain ⟨v0, vs0, d0, ds0, p0, q0, hargs, rfl, rfl, h0, r0⟩ := trodAll_cons hA
  obtain ⟨v1, vs1, d1, ds1, p1, q1, rfl, rfl, rfl, h1, r1⟩ := trodAll_cons r0
  obtain ⟨rfl, rfl, rfl⟩ := trodAll_nil r1
  obtain rfl : args = #[v0, v1] := by cases args; simp_all
  obtain ⟨rfl, rfl⟩ := trodVars_none hV
  obtain ⟨a0, len0, cap0, rfl⟩ := okWide_slice Tryd.underlying22 (hval 0 22 v0 rfl rfl)
  have k0 := h0
  have lt0 : ∀ x ∈ p0, x.block < W.heap.size := by obtain ⟨m, hm⟩ := k0; exact DataW.trod_lt m _ _ _ hm
  obtain ⟨z0, w0, m0⟩ : ∃ zs, Given .u32 W (.slice a0 len0 cap0) zs ∧ len0 ≤ 9223372036854775807 := by
    obtain ⟨fuel, hf⟩ := h0
    rcases open_ints Tryd.underlying22 Tryd.underlying31 (by kernel_rfl) hf with ⟨hcs, _⟩ | ⟨x, l, c, zs, hcs, _, hl, hm, hz, _, hcell, hwz⟩
    · simp [Value.cells] at hcs
      obtain ⟨rfl, rfl, rfl⟩ := hcs
      exact ⟨[], given_nil, by decide⟩
    · simp [Value.cells] at hcs
      obtain ⟨rfl, rfl, rfl⟩ := hcs
      exact ⟨_, given_row hl (by simpa using hz) hcell hwz, by unfold maxLen at hm; omega⟩
  obtain ⟨a1, len1, cap1, rfl⟩ := okWide_slice Tryd.underlying22 (hval 1 22 v1 rfl rfl)
  have k1 := h1
  have lt1 : ∀ x ∈ p1, x.block < W.heap.size := by obtain ⟨m, hm⟩ := k1; exact DataW.trod_lt m _ _ _ hm
  obtain ⟨z1, w1, m1⟩ : ∃ zs, Given .u32 W (.slice a1 len1 cap1) zs ∧ len1 ≤ 9223372036854775807 := by
    obtain ⟨fuel, hf⟩ := h1
    rcases open_ints Tryd.underlying22 Tryd.underlying31 (by kernel_rfl) hf with ⟨hcs, _⟩ | ⟨x, l, c, zs, hcs, _, hl, hm, hz, _, hcell, hwz⟩
    · simp [Value.cells] at hcs
      obtain ⟨rfl, rfl, rfl⟩ := hcs
      exact ⟨[], given_nil, by decide⟩
    · simp [Value.cells] at hcs
      obtain ⟨rfl, rfl, rfl⟩ := hcs
      exact ⟨_, given_row hl (by simpa using hz) hcell hwz, by unfold maxLen at hm; omega⟩
  clear hA0 hval0
  refine (walk a0 len0 cap0 z0 a1 len1 cap1 z1 W w0 m0 w1 m1 hTab).mono fun e W' ⟨he, bel⟩ => ?_
  subst he
  exact ⟨_, rfl, _, _, _, [], _, [], hW', trodAll_mk1 (shut_bool Tryd.underlying4 _), (trodAll_cons_mk (Below.trod laidOut2 (by kernel_rfl) (of_decide_eq_true (by kernel_rfl)) k0 bel lt0) (trodAll_cons_mk (Below.trod laidOut2 (by kernel_rfl) (of_decide_eq_true (by kernel_rfl)) k1 bel lt1) trodAll_mk0)), rfl, bel.frame _, fun h => by cases h⟩

theorem over : Rows.natDividesRow.holds Tryd.pinned (OpenSpec.ofChange Rows.natDividesSpec) :=
  OpenClaim.holds_of_wide 5 Tryd.f5 rfl rfl rfl rfl rfl rfl rfl ⟨rfl, rfl, rfl, rfl, rfl⟩ rfl rfl rfl rfl rfl (by kernel_rfl) Tryd.func5 (by kernel_rfl)
    (of_decide_eq_true (by kernel_rfl)) (by unfold Func.isWrapper; first | (rw [if_pos (by decide +kernel)]; kernel_rfl) | (rw [if_neg (by decide +kernel)]; exact ⟨rfl, rfl⟩))
    (fun os started H enc _ => lifted os started H enc)
theorem row_holds : Rows.NatDividesSaid := over
end Go.Proofs.YtfaglcfoamfelaaDoor.natDivides
namespace Go.Proofs.YtfaglcfoamfelaaDoor
/-- The statement: the tied card. -/
theorem natDivides_holds : Rows.NatDividesCardSaid :=
  Claim7.holds_tied_plain_at .later [] [.data] true _ false
    natDivides.row_holds (fun _ h => by cases h) (by kernel_rfl) (fun _ h => by cases h) natDivides_row_tie rfl ⟨rfl, rfl⟩ (by kernel_rfl) rfl
    (fun f fn hf hfn => by
      obtain rfl : f = 5 := Option.some.inj ((show Tryd.prog.funcNamed "bushel/bushellaw02.NatDivides" = some 5 by kernel_rfl).symm.trans hf) |>.symm
      obtain rfl : fn = Tryd.f5 := (Option.some.inj (Tryd.func5.symm.trans hfn)).symm
      exact ⟨by kernel_rfl, fun j t ht => by
        rw [Tryd.params5] at ht
        have hm : t ∈ [22, 22] := by simpa using Array.mem_of_getElem? ht
        have hall : ([22, 22].all fun u => !Tryd.prog.wantsStandIn u) = true := by kernel_rfl
        exact (show Tryd.prog.wantsStandIn t = false by simpa using List.all_eq_true.1 hall t hm)⟩)
    (by kernel_rfl)
#print axioms natDivides_holds
end Go.Proofs.YtfaglcfoamfelaaDoor
