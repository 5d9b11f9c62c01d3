/- NatRoots: for any list of words the statement's function returns true and changes nothing that was there. No condition; the row lists math/bits.deBruijn32tab as the program's text lays it. -/
import Derived.Test.YtfaglcfoamfelaaDoorRows
import Derived.Test.YtfaglcfoamfelaaDoorCards
import Derived.Test.YtfaglcfoamfelaaDoorTie
import Derived.Test.YtfaglcfoamfelaaDoorLaid2
import Derived.Test.YtfaglcfoamfelaaDoorLongf
import Derived.SevenTiedAt
import Derived.Deep.RegionWith
import Derived.Deep.RegionHeld3
import Derived.Outline
import Derived.Test.YtfaglcfoamfelaaDoorMeet
namespace Go.Proofs.YtfaglcfoamfelaaDoor.natRoots
open Go.ChangeShapes Go.WideShapes Go.ChangeAt Go.RowKit
set_option linter.unusedVariables false
set_option maxRecDepth 100000 in
set_option maxHeartbeats 1000000 in
theorem walk_long (a0 : Option Addr) (len0 cap0 : Nat) (w : World) (hT : Tab w) (h : 20 < len0) (m0 : len0 ≤ 9223372036854775807) :
    Calls Tryd.prog 8 #[.slice a0 len0 cap0] w fun e w' => e = .returned (.bool true) ∧ Below w.heap.size w w' := by
  go_enter Tryd.func8, Tryd.ntmps8
  go_wp2_with fail
  refine (awake2_any w hT).mono ?_; rintro e w' ⟨rfl, hb⟩
  go_wp2_with fail
  go_ret
  exact ⟨rfl, hb⟩
theorem short_of {w : World} {v : Value} {z : Int} (h : IsNat w v z) {n : Nat} (hz : z < 4294967296 ^ n) : ∃ a, WList w v a ∧ a.length ≤ n ∧ wv a = z := by
  obtain ⟨a, h1, h2, rfl⟩ := h
  exact ⟨a, h1, h2.wlen h1.2.1 hz, rfl⟩
theorem root_lt {A s : Int} {n : Nat} (h : IsRoot A s) (hA : A < 4294967296 ^ n) : s < 4294967296 ^ n := by
  obtain ⟨h0, h1, h2⟩ := h
  by_cases e : s = 0
  · rw [e]; exact q_pos n
  · have : s * 1 ≤ s * s := Int.mul_le_mul_of_nonneg_left (by omega) h0
    omega
theorem sized20 {z : Int} (h0 : 0 ≤ z) (h1 : z < 4294967296 ^ 20) : Sized 200 z := (sized_words h0 h1).mono (by omega)
theorem sized_sq {s : Int} (h0 : 0 ≤ s) (h1 : s < 4294967296 ^ 20) : Sized 200 (s + 1) ∧ Sized 400 (s * s) ∧ Sized 400 ((s + 1) * (s + 1)) := by
  have h2 : (4294967296 : Int) ^ 20 + 1 ≤ 1000 ^ 200 := by decide +kernel
  have h3 : (1000 : Int) ^ 400 = 1000 ^ 200 * 1000 ^ 200 := by rw [← Int.pow_add]
  have h4 : s * s ≤ (s + 1) * (s + 1) := Int.mul_le_mul (by omega) (by omega) h0 (by omega)
  have h5 : (s + 1) * (s + 1) ≤ (s + 1) * 1000 ^ 200 := Int.mul_le_mul_of_nonneg_left (by omega) (by omega)
  have h6 : (s + 1) * 1000 ^ 200 < 1000 ^ 200 * 1000 ^ 200 := Int.mul_lt_mul_of_pos_right (by omega) (by decide +kernel)
  have h7 : 0 ≤ s * s := Int.mul_nonneg h0 h0
  exact ⟨⟨by omega, by omega⟩, ⟨by omega, by omega⟩, ⟨by omega, by omega⟩⟩
set_option maxRecDepth 100000 in
set_option maxHeartbeats 2000000 in
theorem walk_short (a0 : Option Addr) (len0 cap0 : Nat) (z0 : List Int) (w : World) (g0 : WList w (.slice a0 len0 cap0) z0) (l0 : z0.length = len0) (hT : Tab w) (k0 : len0 ≤ 20) :
    Calls Tryd.prog 8 #[.slice a0 len0 cap0] w fun e w' => e = .returned (.bool true) ∧ Below w.heap.size w w' := by
  have HU := Lib.hid g0
  have HT := Lib.hid hT
  have hr0 := wv_range g0.2.1
  have hq0 := q_mono (m := z0.length) (n := 20) (by omega)
  have hA : wv z0 < 4294967296 ^ 20 := by omega
  have hs0 : Sized 200 (wv z0) := sized20 hr0.1 hA
  have HA : Hid (0 ≤ wv z0 ∧ wv z0 < 4294967296 ^ 20) := Lib.hid ⟨hr0.1, hA⟩
  have HR := Lib.hid (root_any _ z0 w g0 (by omega) (fun w1 v b h1 h2 h3 _ => div_any _ v z0 b w1 h1 h2 (by omega) h3))
  have HN0 := Lib.hid (fun w1 (h : Below w.heap.size w w1) => num_words _ z0 w1 (HU.out.below h) (by omega))
  have HS0 := Lib.hid hs0
  clear g0 hT hr0 hq0 hs0
  go_enter Tryd.func8, Tryd.ntmps8
  go_wp2_with fail
  refine (HR.out).mono ?_; rintro e w1 ⟨r, s, rfl, hr, hroot, hb1⟩
  have hs := root_lt hroot hA
  have hroot := Lib.hid hroot
  obtain ⟨rl, hrl, lr, er⟩ := short_of hr hs
  have HNr := Lib.hid (num_words r rl w1 hrl (by omega))
  rw [er] at HNr
  have Hr := Lib.hid hr
  have hb1 := Lib.hid hb1
  have HSs := Lib.hid (sized20 hroot.out.1 hs)
  have HA1 := Lib.hid (fun w1 u v (hu : IsNum w1 u s) (hv : IsNum w1 v 1) => num_add u v s 1 200 w1 hu hv HSs.out ((sized8 (by decide) (by decide)).mono (by decide)) (by decide))
  have HSq := Lib.hid (sized_sq hroot.out.1 hs)
  clear hr hrl lr er HR HU hA
  have hs := Lib.hid hs
  go_wp2_with fail
  refine (HNr.out).mono ?_; rintro e w2 ⟨x, rfl, hx, hb2⟩
  obtain ⟨xb, xp, xl, xc, rfl⟩ := hx.shape
  have HX := Lib.hid hx
  clear hx
  have hE0 := hb1.out.trans (hb2.mono hb1.out.size)
  have hE := Lib.hid (hE0.trans ((below_one w2 (.cells #[.bool xb, .slice xp xl xc] 28)).mono hE0.size))
  have HX1 := Lib.hid (HX.out.below (below_one w2 (.cells #[.bool xb, .slice xp xl xc] 28)))
  have Hr := Lib.hid ((Hr.out.below hb2).below (below_one w2 (.cells #[.bool xb, .slice xp xl xc] 28)))
  clear hb1 hb2 HX hE0 HNr
  go_upto_region 5 with fail
  go_cut [5] (fun s5 wx => ∃ M : Nat, s5 = .pointer (some ⟨M, 0, none⟩) ∧ Hid (Meet (w2.alloc (.cells #[.bool xb, .slice xp xl xc] 28)) w2.heap.size M (.bool xb) (.slice xp xl xc) s wx))
  case first =>
    go_region_with (first
      | (go_at_call 20; refine (nat_any 1 _ (by decide) (by decide)).mono ?_; rintro e w3 ⟨o, rfl, ho, hb3⟩; obtain ⟨hc3, hf3⟩ := bcell hb3; have hz3 := hb3.size; try simp at hz3; (first | (have hzz : w2.heap.size + 1 < w3.heap.size := Nat.lt_of_succ_le hz3) | skip); have hk3 : Below (w2.alloc (.cells #[.bool xb, .slice xp xl xc] 28)).heap.size (w2.alloc (.cells #[.bool xb, .slice xp xl xc] 28)) w3 := (by first | exact from_drew hb3 | exact from_alloc hb3); have hzx := x_lt hk3)
      | (go_at_call 29; refine (HA1.out _ _ _ ?_ ?_).mono ?_; (first | exact HX1.out.below hk3 | exact (HX1.out.below hk3).below (below_one _ _)); (first | exact ho | exact ho.below (below_one _ _)); rintro e w4 ⟨y, rfl, hy, hb4⟩; obtain ⟨yb, yp, yl, yc, rfl⟩ := hy.shape; obtain ⟨hc4, hf4⟩ := bcell hb4; have hz4 := hb4.size; try simp at hz4))
    all_goals
      clear hc3 hf3 hc4 hf4
      go_wp2_with fail
      go_meet
      first
        | exact ⟨_, rfl, Lib.hid (meet_alloc (Below.refl _ _) HX1.out (hk3.trans (hb4.mono hk3.size)) hy)⟩
        | exact ⟨_, rfl, Lib.hid (meet_set (Below.refl _ _) HX1.out hk3 ((Kept.start w3 _ _ _).call hb4) hy)⟩
        | exact ⟨_, rfl, Lib.hid (meet_set (Below.refl _ _) HX1.out (Below.refl _ _) (by have q := (((Kept.start (w2.alloc (.cells #[.bool xb, .slice xp xl xc] 28)) (.bool false) (.slice none 0 0) 28).call (Below.refl _ _).drew).call hb3).call hb4; simp only [World.size_alloc] at q; exact q) hy)⟩
  case rest =>
    obtain ⟨M, rfl, hmeet⟩ := hcut
    obtain ⟨u, t, q1, q2, q3, q4, q5, q6, q7⟩ := hmeet.out
    obtain ⟨yb, yp, yl, yc, e⟩ := q3.shape
    simp only [Value.agg.injEq, Array.mk.injEq, List.cons.injEq, and_true] at e
    obtain ⟨rfl, rfl⟩ := e
    clear HX1 hmeet HA1
    rename_i wx _ _
    have hE2 := hE.out.trans (q7.mono hE.out.size)
    have Hr2 := Lib.hid (Hr.out.below q7)
    have HX2 := Lib.hid q6
    have HY2 := Lib.hid q3
    have hC2 := Lib.hid (And.intro (And.intro q4 q5) (And.intro q1 q2))
    have HNa := Lib.hid (HN0.out _ hE2)
    have hE2 := Lib.hid hE2
    clear q1 q2 q3 q4 q5 q6 q7 hE Hr
    go_wp2_with fail
    refine (HNa.out).mono ?_; rintro e w6 ⟨pv, rfl, hp, hb6⟩
    obtain ⟨pb, pp, pl, pc, rfl⟩ := hp.shape
    have hb7 := below_one w6 (.cells #[.bool pb, .slice pp pl pc] 28)
    have hb67 := hb6.trans (hb7.mono hb6.size)
    have hE3 := Lib.hid (hE2.out.trans (hb67.mono hE2.out.size))
    have HX3 := Lib.hid (HX2.out.below hb67)
    have HY3 := Lib.hid (HY2.out.below hb67)
    have Hr3 := Lib.hid (Hr2.out.below hb67)
    have HP3 := Lib.hid (hp.below hb7)
    obtain ⟨⟨q1, q2⟩, q3, q4⟩ := hC2.out
    have hS3 : SixAt w2.heap.size M w6.heap.size (.bool xb) (.slice xp xl xc) (.bool yb) (.slice yp yl yc) (.bool pb) (.slice pp pl pc) (w6.alloc (.cells #[.bool pb, .slice pp pl pc] 28)) :=
      ⟨⟨cell_later hb67 q1, cell_later hb67 q2⟩, ⟨cell_later hb67 q3, cell_later hb67 q4⟩, by simp [go_sem], by simp [go_sem]⟩
    have hS3 := Lib.hid hS3
    clear hE2 HX2 HY2 Hr2 HN0 HNa hp hb6 hb7 hb67 hC2 q1 q2 q3 q4
    go_upto_region 7 with fail
    generalize w6.alloc (.cells #[.bool pb, .slice pp pl pc] 28) = W at *
    have hd : cmpI (s * s) (wv z0) ≤ 0 := cmpI_le.2 hroot.out.2.1
    have hd2 : cmpI ((s + 1) * (s + 1)) (wv z0) = 1 := cmpI_gt hroot.out.2.2
    have HM1 := Lib.hid (fun w1 u (hu : IsNum w1 u s) => num_mul u u s s 200 w1 hu hu HSs.out HSs.out (by decide))
    have HM2 := Lib.hid (fun w1 u (hu : IsNum w1 u (s + 1)) => num_mul u u (s + 1) (s + 1) 200 w1 hu hu (HSq.out.1) (HSq.out.1) (by decide))
    have HC1 := Lib.hid (fun w1 u v (hu : IsNum w1 u (s * s)) (hv : IsNum w1 v (wv z0)) => num_cmp u v (s * s) (wv z0) 400 w1 hu hv HSq.out.2.1 (HS0.out.mono (by decide)) (by decide))
    have HC2 := Lib.hid (fun w1 u v (hu : IsNum w1 u ((s + 1) * (s + 1))) (hv : IsNum w1 v (wv z0)) => num_cmp u v ((s + 1) * (s + 1)) (wv z0) 400 w1 hu hv HSq.out.2.2 (HS0.out.mono (by decide)) (by decide))
    rw [hd2] at HC2
    have HSs := HSs
    clear hd2
    generalize cmpI (s * s) (wv z0) = d1 at *
    have hk := SixAt.call hS3.out (Below.refl _ _).drew
    have hBw : Below W.heap.size W W.drew := (Below.refl _ _).drew
    go_region_held3 (fun w' => (w'.cell? ⟨w2.heap.size, 0, none⟩ = some (.bool xb) ∧ w'.cell? ⟨w2.heap.size, 1, none⟩ = some (.slice xp xl xc)) ∧ (w'.cell? ⟨M, 0, none⟩ = some (.bool yb) ∧ w'.cell? ⟨M, 1, none⟩ = some (.slice yp yl yc)) ∧ (w'.cell? ⟨w6.heap.size, 0, none⟩ = some (.bool pb) ∧ w'.cell? ⟨w6.heap.size, 1, none⟩ = some (.slice pp pl pc)))
      (with_reducible exact hk)
      (first
        | (go_at_call 18; refine (isw_nat r _ _ 20 _ (IsNat.below Hr3.out hBw) hs.out (by decide) (HX3.out.below hBw)).mono ?_; rintro e w8 ⟨rfl, hb8⟩; have hk := SixAt.call hk hb8; have hBw := hBw.trans (hb8.mono hBw.size))
        | (go_at_call_of 31 xp; refine (HM1.out _ _ (HX3.out.below hBw)).mono ?_; rintro e w9 ⟨m1, rfl, hm1, hb9⟩; have hk := SixAt.call hk hb9; have hBw := hBw.trans (hb9.mono hBw.size))
        | (go_at_call_of 15 m1; refine (HC1.out _ _ _ hm1 (HP3.out.below hBw)).mono ?_; rintro e w10 ⟨rfl, hb10⟩; have hk := SixAt.call hk hb10; have hBw := hBw.trans (hb10.mono hBw.size))
        | (go_at_call_of 31 yp; refine (HM2.out _ _ (HY3.out.below hBw)).mono ?_; rintro e w11 ⟨m2, rfl, hm2, hb11⟩; have hk := SixAt.call hk hb11; have hBw := hBw.trans (hb11.mono hBw.size))
        | (go_at_call_of 15 m2; refine (HC2.out _ _ _ hm2 (HP3.out.below hBw)).mono ?_; rintro e w12 ⟨rfl, hb12⟩; have hk := SixAt.call hk hb12; have hBw := hBw.trans (hb12.mono hBw.size))
        | (go_at_call 11; refine (awake2_any _ (HT.out.call (hE3.out.trans (hBw.mono hE3.out.size)))).mono ?_; rintro e w13 ⟨rfl, hb13⟩; have hk := SixAt.call hk hb13; have hBw := hBw.trans (hb13.mono hBw.size)))
    have hE := hE3.out.trans (hBw.mono hE3.out.size)
    clear hk hBw
    go_wp2_with fail
    go_ret
    exact ⟨ret_bool (by simp), hE⟩
theorem walk (a0 : Option Addr) (len0 cap0 : Nat) (z0 : List Int) (w : World) (g0 : Given .u32 w (.slice a0 len0 cap0) z0) (m0 : len0 ≤ 9223372036854775807) (hT : Tab w) :
    Calls Tryd.prog 8 #[.slice a0 len0 cap0] w fun e w' => e = .returned (.bool true) ∧ Below w.heap.size w w' := by
  have l0 := len_max g0
  by_cases h : len0 ≤ 20
  · exact walk_short a0 len0 cap0 z0 w (g0.wlist (by omega)) l0 hT h
  · exact walk_long a0 len0 cap0 w hT (by omega) m0
set_option maxRecDepth 100000 in
theorem lifted (os : Os) (started : os.Started) (H : Type) (enc : TypeId × Value → H) :
    ReturnsInHanded {} Tryd.checked os 8 .any (fun w args => (Rows.natRootsSpec.pre enc Tryd.prog Tryd.f8 [] false w args ∧ laidMetH Tryd.prog laid2 w) ∧ sizedMet enc Tryd.prog Tryd.f8 (OpenSpec.ofChange Rows.natRootsSpec) false w args)
      (Rows.natRootsSpec.post enc Tryd.prog Tryd.f8 false true false false) := by
  refine returnsInHanded_of_change_and (C := Tryd.checked) (X := fun w _ => laidMetH Tryd.prog laid2 w) (fun _ _ _ hh h => h.of_heap hh) own2 started (by kernel_rfl) Tryd.func8
    (ChangeSpec.witness_shaped (enc := enc) (C := Tryd.checked) (os := os) (X := fun w _ => laidMetH Tryd.prog laid2 w) false (World.doorLaid Tryd.prog 400 os) #[.slice none 0 0] 8 rfl (World.shaped_of_RefB (by kernel_rfl) (by kernel_rfl)) (by kernel_rfl) (by kernel_rfl) (by kernel_rfl) (door_met2 os _)) ?_
  intro W base args ds gs before hval0 hW _ _ hL _
  have hTab := tab_of hL
  have hval : ∀ (j : Nat) t v, Tryd.f8.params[j]? = some t → args[j]? = some v → Value.okWide Tryd.prog W .any base t v := hval0
  have hW' := hW
  obtain ⟨p, q, hA0, hV, rfl, hfz, hnd⟩ := hW
  have hA : DataW.TrodAll enc Tryd.prog W 0 (fun _ => true) true Tryd.f8.params.toList args.toList ds p := hA0
  rw [Tryd.params8] at hA hval
  obtain ⟨v0, vs0, d0, ds0, p0, q0, hargs, rfl, rfl, h0, r0⟩ := trodAll_cons hA
  obtain ⟨rfl, rfl, rfl⟩ := trodAll_nil r0
  obtain rfl : args = #[v0] := by cases args; simp_all
  obtain ⟨rfl, rfl⟩ := trodVars_none hV
  obtain ⟨a0, len0, cap0, rfl⟩ := okWide_slice Tryd.underlying22 (hval 0 22 v0 rfl rfl)
  have k0 := h0
  have lt0 : ∀ x ∈ p0, x.block < W.heap.size := by obtain ⟨m, hm⟩ := k0; exact DataW.trod_lt m _ _ _ hm
  obtain ⟨z0, w0, m0⟩ : ∃ zs, Given .u32 W (.slice a0 len0 cap0) zs ∧ len0 ≤ 9223372036854775807 := by
    obtain ⟨fuel, hf⟩ := h0
    rcases open_ints Tryd.underlying22 Tryd.underlying31 (by kernel_rfl) hf with ⟨hcs, _⟩ | ⟨x, l, c, zs, hcs, _, hl, hm, hz, _, hcell, hwz⟩
    · simp [Value.cells] at hcs
      obtain ⟨rfl, rfl, rfl⟩ := hcs
      exact ⟨[], given_nil, by decide⟩
    · simp [Value.cells] at hcs
      obtain ⟨rfl, rfl, rfl⟩ := hcs
      exact ⟨_, given_row hl (by simpa using hz) hcell hwz, by unfold maxLen at hm; omega⟩
  clear hA0 hval0
  refine (walk a0 len0 cap0 z0 W w0 m0 hTab).mono fun e W' ⟨he, bel⟩ => ?_
  subst he
  exact ⟨_, rfl, _, _, _, [], _, [], hW', trodAll_mk1 (shut_bool Tryd.underlying4 _), (trodAll_cons_mk (Below.trod laidOut2 (by kernel_rfl) (of_decide_eq_true (by kernel_rfl)) k0 bel lt0) trodAll_mk0), rfl, bel.frame _, fun h => by cases h⟩

theorem over : Rows.natRootsRow.holds Tryd.pinned (OpenSpec.ofChange Rows.natRootsSpec) :=
  OpenClaim.holds_of_wide 8 Tryd.f8 rfl rfl rfl rfl rfl rfl rfl ⟨rfl, rfl, rfl, rfl, rfl⟩ rfl rfl rfl rfl rfl (by kernel_rfl) Tryd.func8 (by kernel_rfl)
    (of_decide_eq_true (by kernel_rfl)) (by unfold Func.isWrapper; first | (rw [if_pos (by decide +kernel)]; kernel_rfl) | (rw [if_neg (by decide +kernel)]; exact ⟨rfl, rfl⟩))
    (fun os started H enc _ => lifted os started H enc)
theorem row_holds : Rows.NatRootsSaid := over
end Go.Proofs.YtfaglcfoamfelaaDoor.natRoots
namespace Go.Proofs.YtfaglcfoamfelaaDoor
/-- The statement: the tied card. -/
theorem natRoots_holds : Rows.NatRootsCardSaid :=
  Claim7.holds_tied_plain_at .later [] [.data] true _ false
    natRoots.row_holds (fun _ h => by cases h) (by kernel_rfl) (fun _ h => by cases h) natRoots_row_tie rfl ⟨rfl, rfl⟩ (by kernel_rfl) rfl
    (fun f fn hf hfn => by
      obtain rfl : f = 8 := Option.some.inj ((show Tryd.prog.funcNamed "bushel/bushellaw02.NatRoots" = some 8 by kernel_rfl).symm.trans hf) |>.symm
      obtain rfl : fn = Tryd.f8 := (Option.some.inj (Tryd.func8.symm.trans hfn)).symm
      exact ⟨by kernel_rfl, fun j t ht => by
        rw [Tryd.params8] at ht
        have hm : t ∈ [22] := by simpa using Array.mem_of_getElem? ht
        have hall : ([22].all fun u => !Tryd.prog.wantsStandIn u) = true := by kernel_rfl
        exact (show Tryd.prog.wantsStandIn t = false by simpa using List.all_eq_true.1 hall t hm)⟩)
    (by kernel_rfl)
#print axioms natRoots_holds
end Go.Proofs.YtfaglcfoamfelaaDoor
