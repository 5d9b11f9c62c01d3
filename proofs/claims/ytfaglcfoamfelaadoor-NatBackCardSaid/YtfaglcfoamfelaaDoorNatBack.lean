/- NatBack: for any two lists of words the statement's function returns true and changes nothing that was there. No condition; the row lists math/bits.deBruijn32tab as the program's text lays it. -/
import Derived.Test.YtfaglcfoamfelaaDoorRows
import Derived.Test.YtfaglcfoamfelaaDoorCards
import Derived.Test.YtfaglcfoamfelaaDoorTie
import Derived.Test.YtfaglcfoamfelaaDoorLaid2
import Derived.Test.YtfaglcfoamfelaaDoorNumx
import Derived.Test.YtfaglcfoamfelaaDoorNatm
import Derived.Test.YtfaglcfoamfelaaDoorLongf
import Derived.SevenTiedAt
namespace Go.Proofs.YtfaglcfoamfelaaDoor.natBack
open Go.ChangeShapes Go.WideShapes Go.ChangeAt Go.RowKit
set_option linter.unusedVariables false
set_option maxRecDepth 100000 in
set_option maxHeartbeats 1000000 in
theorem walk_long (a0 : Option Addr) (len0 cap0 : Nat) (a1 : Option Addr) (len1 cap1 : Nat) (w : World) (hT : Tab w) (h : 40 < len0 ∨ 40 < len1) (m0 : len0 ≤ 9223372036854775807) (m1 : len1 ≤ 9223372036854775807) :
    Calls Tryd.prog 6 #[.slice a0 len0 cap0, .slice a1 len1 cap1] w fun e w' => e = .returned (.bool true) ∧ Below w.heap.size w w' := by
  have hL := light_any a0 a1 len0 len1 cap0 cap1 w m0 m1
  have e : (decide (len0 ≤ 40) && decide (len1 ≤ 40)) = false := by simp; omega
  rw [e] at hL
  have HL := Lib.hid hL
  clear hL e
  go_enter Tryd.func6, Tryd.ntmps6
  go_wp2_with fail
  refine (HL.out).mono ?_; rintro e w' ⟨rfl, rfl⟩
  go_wp2_with fail
  refine (awake2_any w hT).mono ?_; rintro e w' ⟨rfl, hb⟩
  go_wp2_with fail
  go_ret
  exact ⟨rfl, hb⟩
theorem short_of {w : World} {v : Value} {z : Int} (h : IsNat w v z) {n : Nat} (hz : z < 4294967296 ^ n) : ∃ a, WList w v a ∧ a.length ≤ n ∧ wv a = z := by
  obtain ⟨a, h1, h2, rfl⟩ := h
  exact ⟨a, h1, h2.wlen h1.2.1 hz, rfl⟩
set_option maxRecDepth 100000 in
set_option maxHeartbeats 1000000 in
theorem walk_none (a0 : Option Addr) (len0 cap0 : Nat) (z0 : List Int) (a1 : Option Addr) (len1 cap1 : Nat) (z1 : List Int) (w : World) (g0 : WList w (.slice a0 len0 cap0) z0) (g1 : WList w (.slice a1 len1 cap1) z1) (l0 : z0.length = len0) (l1 : z1.length = len1) (hT : Tab w) (k0 : len0 ≤ 40) (k1 : len1 ≤ 40) (hz : wv z1 = 0) :
    Calls Tryd.prog 6 #[.slice a0 len0 cap0, .slice a1 len1 cap1] w fun e w' => e = .returned (.bool true) ∧ Below w.heap.size w w' := by
  have hL := light_any a0 a1 len0 len1 cap0 cap1 w (by omega) (by omega)
  have e : (decide (len0 ≤ 40) && decide (len1 ≤ 40)) = true := by simp; omega
  rw [e] at hL
  have HL := Lib.hid hL
  have HV := Lib.hid g1
  have HT := Lib.hid hT
  have HD := Lib.hid (div_zero (.slice a0 len0 cap0) _ z1 w g1 hz)
  have HTr := Lib.hid (fun w1 (h : Below w.heap.size w w1) => trim_any _ z1 w1 (HV.out.below h) 0 hz)
  clear hL e g0 g1 hT
  go_enter Tryd.func6, Tryd.ntmps6
  go_wp2_with fail
  refine (HL.out).mono ?_; rintro e w' ⟨rfl, rfl⟩
  go_wp2_with fail
  refine (HD.out).mono ?_; rintro e w1 ⟨rfl, hb1⟩
  go_wp2_with fail
  refine (HTr.out _ hb1).mono ?_; rintro e w2 ⟨t, x, rfl, hF⟩
  have hN := Fresh.isNat ⟨t, x, rfl, hF⟩ (by omega)
  obtain ⟨y, hy, hl, _⟩ := short_of hN.1 (n := 0) (by decide)
  obtain ⟨tp, tc, rfl⟩ := hy.shape
  have hb2 := Lib.hid (hb1.trans (hN.2.mono hb1.size))
  have hl0 : y.length = 0 := by omega
  rw [hl0]
  clear hF hN hy hl hb1
  go_wp2_with fail
  refine (awake2_any _ (HT.out.call hb2.out)).mono ?_; rintro e w3 ⟨rfl, hb3⟩
  have hE := hb2.out.trans (hb3.mono hb2.out.size)
  go_wp2_with fail
  go_ret
  exact ⟨ret_bool (by simp), hE⟩
set_option maxRecDepth 100000 in
set_option maxHeartbeats 1000000 in
theorem walk_some (a0 : Option Addr) (len0 cap0 : Nat) (z0 : List Int) (a1 : Option Addr) (len1 cap1 : Nat) (z1 : List Int) (w : World) (g0 : WList w (.slice a0 len0 cap0) z0) (g1 : WList w (.slice a1 len1 cap1) z1) (l0 : z0.length = len0) (l1 : z1.length = len1) (hT : Tab w) (k0 : len0 ≤ 40) (k1 : len1 ≤ 40) (hz : 0 < wv z1) :
    Calls Tryd.prog 6 #[.slice a0 len0 cap0, .slice a1 len1 cap1] w fun e w' => e = .returned (.bool true) ∧ Below w.heap.size w w' := by
  have hL := light_any a0 a1 len0 len1 cap0 cap1 w (by omega) (by omega)
  have e : (decide (len0 ≤ 40) && decide (len1 ≤ 40)) = true := by simp; omega
  rw [e] at hL
  have HL := Lib.hid hL
  have HU := Lib.hid g0
  have HV := Lib.hid g1
  have HT := Lib.hid hT
  have HD := Lib.hid (div_any _ _ z0 z1 w g0 g1 (by omega) hz)
  have hr0 := wv_range g0.2.1
  have hq0 := q_mono (m := z0.length) (n := 40) (by omega)
  have hx : wv z0 / wv z1 < 4294967296 ^ 40 := Int.lt_of_le_of_lt (Int.ediv_le_self _ hr0.1) (by omega)
  have hy : wv z0 % wv z1 < 4294967296 ^ 40 := by
    have k1 := Int.mul_nonneg (Int.le_of_lt hz) (Int.ediv_nonneg hr0.1 (Int.le_of_lt hz))
    have k2 := Int.emod_add_mul_ediv (wv z0) (wv z1)
    omega
  have hlt := Int.emod_lt_of_pos (wv z0) hz
  have hback := Int.emod_add_mul_ediv (wv z0) (wv z1)
  rw [Int.mul_comm, Int.add_comm] at hback
  have hF := Lib.hid (And.intro hx (And.intro hy (And.intro hlt hback)))
  have hls : Hid (z0.length ≤ 40 ∧ z1.length ≤ 40) := Lib.hid (by omega)
  clear hL e g0 g1 hT hr0 hq0 hx hy hlt hback
  go_enter Tryd.func6, Tryd.ntmps6
  go_wp2_with fail
  refine (HL.out).mono ?_; rintro e w' ⟨rfl, rfl⟩
  go_wp2_with fail
  refine (HD.out).mono ?_; rintro e w1 ⟨v1, v2, rfl, hq, hr, hb1⟩
  obtain ⟨x, hx, lx, ex⟩ := short_of hq hF.out.1
  obtain ⟨y, hy, ly, ey⟩ := short_of hr hF.out.2.1
  have HC := Lib.hid (cmp_any _ _ y z1 w1 hy (HV.out.below hb1))
  have hcm : cmpI (wv y) (wv z1) = -1 := cmpI_lt (by rw [ey]; exact hF.out.2.2.1)
  rw [hcm] at HC
  have HX := Lib.hid (And.intro hx (And.intro lx ex))
  have HY := Lib.hid (And.intro hy (And.intro ly ey))
  have hb1 := Lib.hid hb1
  clear hq hr hx lx ex hy ly ey hcm HD HL
  go_wp2_with fail
  refine (HC.out).mono ?_; rintro e w2 ⟨rfl, nd, rfl⟩
  have hb2 := below_drewN (Below.refl w1.heap.size w1) nd
  generalize w1.drewN nd = w2 at *
  have HM := Lib.hid (mulw_any v1 _ x z1 w2 (HX.out.1.below hb2) (HV.out.below (hb1.out.trans (hb2.mono hb1.out.size))) (by have := HX.out.2.1; omega) (by have := hls.out.2; omega))
  have hb2 := Lib.hid hb2
  clear HC
  go_wp2_with fail
  refine (HM.out).mono ?_; rintro e w3 ⟨t, m, rfl, hFm⟩
  have hN := Fresh.isNat ⟨t, m, rfl, hFm⟩ (by have := HX.out.2.1; have := hls.out.2; omega)
  obtain ⟨h1, h2, h3, h4, h5, h6⟩ := id hFm
  have hml : m.length ≤ 80 := by have := HX.out.2.1; have := hls.out.2; omega
  have hmw := own_wlist h1 h2 (by omega)
  have hb3 := hb2.out.trans (h6.mono hb2.out.size)
  have HA := Lib.hid (add_any t v2 m y w3 hmw (HY.out.1.below hb3) (by omega) (by have := HY.out.2.1; omega))
  have hb3 := Lib.hid hb3
  rw [h4, HX.out.2.2, HY.out.2.2, hF.out.2.2.2] at HA
  clear hFm hN h1 h2 h3 h4 h5 h6 hmw HM hb2
  go_wp2_with fail
  refine (HA.out).mono ?_; rintro e w4 ⟨t2, s, rfl, hFs⟩
  have hN := Fresh.isNat ⟨t2, s, rfl, hFs⟩ (by have := HY.out.2.1; omega)
  have hb4 := hb3.out.trans (hN.2.mono hb3.out.size)
  have hb5 := hb1.out.trans (hb4.mono hb1.out.size)
  obtain ⟨sl, hs, -, es⟩ := hN.1
  have HC := Lib.hid (cmp_any t2 _ sl z0 w4 hs (HU.out.below hb5))
  have hcm : cmpI (wv sl) (wv z0) = 0 := cmpI_eq es
  rw [hcm] at HC
  have hb5 := Lib.hid hb5
  clear hFs hN hb4 hs es hcm HA hb3
  go_wp2_with fail
  refine (HC.out).mono ?_; rintro e w5 ⟨rfl, nd2, rfl⟩
  have hb6 := below_drewN (Below.refl w4.heap.size w4) nd2
  generalize w4.drewN nd2 = w5 at *
  have hE := Lib.hid (hb5.out.trans (hb6.mono hb5.out.size))
  clear hb6
  go_wp2_with fail
  refine (awake2_any _ (HT.out.call hE.out)).mono ?_; rintro e w6 ⟨rfl, hb7⟩
  have hE := hE.out.trans (hb7.mono hE.out.size)
  go_wp2_with fail
  go_ret
  exact ⟨ret_bool (by simp), hE⟩
theorem walk_short (a0 : Option Addr) (len0 cap0 : Nat) (z0 : List Int) (a1 : Option Addr) (len1 cap1 : Nat) (z1 : List Int) (w : World) (g0 : WList w (.slice a0 len0 cap0) z0) (g1 : WList w (.slice a1 len1 cap1) z1) (l0 : z0.length = len0) (l1 : z1.length = len1) (hT : Tab w) (k0 : len0 ≤ 40) (k1 : len1 ≤ 40) :
    Calls Tryd.prog 6 #[.slice a0 len0 cap0, .slice a1 len1 cap1] w fun e w' => e = .returned (.bool true) ∧ Below w.heap.size w w' := by
  have h := (wv_range g1.2.1).1
  by_cases hz : wv z1 = 0
  · exact walk_none a0 len0 cap0 z0 a1 len1 cap1 z1 w g0 g1 l0 l1 hT k0 k1 hz
  · exact walk_some a0 len0 cap0 z0 a1 len1 cap1 z1 w g0 g1 l0 l1 hT k0 k1 (by omega)
theorem walk (a0 : Option Addr) (len0 cap0 : Nat) (z0 : List Int) (a1 : Option Addr) (len1 cap1 : Nat) (z1 : List Int) (w : World) (g0 : Given .u32 w (.slice a0 len0 cap0) z0) (m0 : len0 ≤ 9223372036854775807) (g1 : Given .u32 w (.slice a1 len1 cap1) z1) (m1 : len1 ≤ 9223372036854775807) (hT : Tab w) :
    Calls Tryd.prog 6 #[.slice a0 len0 cap0, .slice a1 len1 cap1] w fun e w' => e = .returned (.bool true) ∧ Below w.heap.size w w' := by
  have l0 := len_max g0
  have l1 := len_max g1
  by_cases h : len0 ≤ 40 ∧ len1 ≤ 40
  · exact walk_short a0 len0 cap0 z0 a1 len1 cap1 z1 w (g0.wlist (by omega)) (g1.wlist (by omega)) l0 l1 hT h.1 h.2
  · exact walk_long a0 len0 cap0 a1 len1 cap1 w hT (by omega) m0 m1
set_option maxRecDepth 100000 in
theorem lifted (os : Os) (started : os.Started) (H : Type) (enc : TypeId × Value → H) :
    ReturnsInHanded {} Tryd.checked os 6 .any (fun w args => (Rows.natBackSpec.pre enc Tryd.prog Tryd.f6 [] false w args ∧ laidMetH Tryd.prog laid2 w) ∧ sizedMet enc Tryd.prog Tryd.f6 (OpenSpec.ofChange Rows.natBackSpec) false w args)
      (Rows.natBackSpec.post enc Tryd.prog Tryd.f6 false true false false) := by
  refine returnsInHanded_of_change_and (C := Tryd.checked) (X := fun w _ => laidMetH Tryd.prog laid2 w) (fun _ _ _ hh h => h.of_heap hh) own2 started (by kernel_rfl) Tryd.func6
    (ChangeSpec.witness_shaped (enc := enc) (C := Tryd.checked) (os := os) (X := fun w _ => laidMetH Tryd.prog laid2 w) false (World.doorLaid Tryd.prog 400 os) #[.slice none 0 0, .slice none 0 0] 8 rfl (World.shaped_of_RefB (by kernel_rfl) (by kernel_rfl)) (by kernel_rfl) (by kernel_rfl) (by kernel_rfl) (door_met2 os _)) ?_
  intro W base args ds gs before hval0 hW _ _ hL _
  have hTab := tab_of hL
  have hval : ∀ (j : Nat) t v, Tryd.f6.params[j]? = some t → args[j]? = some v → Value.okWide Tryd.prog W .any base t v := hval0
  have hW' := hW
  obtain ⟨p, q, hA0, hV, rfl, hfz, hnd⟩ := hW
  have hA : DataW.TrodAll enc Tryd.prog W 0 (fun _ => true) true Tryd.f6.params.toList args.toList ds p := hA0
  rw [Tryd.params6] at hA hval
  obtain ⟨v0, vs0, d0, ds0, p0, q0, hargs, rfl, rfl, h0, r0⟩ := trodAll_cons hA
  obtain ⟨v1, vs1, d1, ds1, p1, q1, rfl, rfl, rfl, h1, r1⟩ := trodAll_cons r0
  obtain ⟨rfl, rfl, rfl⟩ := trodAll_nil r1
  obtain rfl : args = #[v0, v1] := by cases args; simp_all
  obtain ⟨rfl, rfl⟩ := trodVars_none hV
  obtain ⟨a0, len0, cap0, rfl⟩ := okWide_slice Tryd.underlying22 (hval 0 22 v0 rfl rfl)
  have k0 := h0
  have lt0 : ∀ x ∈ p0, x.block < W.heap.size := by obtain ⟨m, hm⟩ := k0; exact DataW.trod_lt m _ _ _ hm
  obtain ⟨z0, w0, m0⟩ : ∃ zs, Given .u32 W (.slice a0 len0 cap0) zs ∧ len0 ≤ 9223372036854775807 := by
    obtain ⟨fuel, hf⟩ := h0
    rcases open_ints Tryd.underlying22 Tryd.underlying31 (by kernel_rfl) hf with ⟨hcs, _⟩ | ⟨x, l, c, zs, hcs, _, hl, hm, hz, _, hcell, hwz⟩
    · simp [Value.cells] at hcs
      obtain ⟨rfl, rfl, rfl⟩ := hcs
      exact ⟨[], given_nil, by decide⟩
    · simp [Value.cells] at hcs
      obtain ⟨rfl, rfl, rfl⟩ := hcs
      exact ⟨_, given_row hl (by simpa using hz) hcell hwz, by unfold maxLen at hm; omega⟩
  obtain ⟨a1, len1, cap1, rfl⟩ := okWide_slice Tryd.underlying22 (hval 1 22 v1 rfl rfl)
  have k1 := h1
  have lt1 : ∀ x ∈ p1, x.block < W.heap.size := by obtain ⟨m, hm⟩ := k1; exact DataW.trod_lt m _ _ _ hm
  obtain ⟨z1, w1, m1⟩ : ∃ zs, Given .u32 W (.slice a1 len1 cap1) zs ∧ len1 ≤ 9223372036854775807 := by
    obtain ⟨fuel, hf⟩ := h1
    rcases open_ints Tryd.underlying22 Tryd.underlying31 (by kernel_rfl) hf with ⟨hcs, _⟩ | ⟨x, l, c, zs, hcs, _, hl, hm, hz, _, hcell, hwz⟩
    · simp [Value.cells] at hcs
      obtain ⟨rfl, rfl, rfl⟩ := hcs
      exact ⟨[], given_nil, by decide⟩
    · simp [Value.cells] at hcs
      obtain ⟨rfl, rfl, rfl⟩ := hcs
      exact ⟨_, given_row hl (by simpa using hz) hcell hwz, by unfold maxLen at hm; omega⟩
  clear hA0 hval0
  refine (walk a0 len0 cap0 z0 a1 len1 cap1 z1 W w0 m0 w1 m1 hTab).mono fun e W' ⟨he, bel⟩ => ?_
  subst he
  exact ⟨_, rfl, _, _, _, [], _, [], hW', trodAll_mk1 (shut_bool Tryd.underlying4 _), (trodAll_cons_mk (Below.trod laidOut2 (by kernel_rfl) (of_decide_eq_true (by kernel_rfl)) k0 bel lt0) (trodAll_cons_mk (Below.trod laidOut2 (by kernel_rfl) (of_decide_eq_true (by kernel_rfl)) k1 bel lt1) trodAll_mk0)), rfl, bel.frame _, fun h => by cases h⟩

theorem over : Rows.natBackRow.holds Tryd.pinned (OpenSpec.ofChange Rows.natBackSpec) :=
  OpenClaim.holds_of_wide 6 Tryd.f6 rfl rfl rfl rfl rfl rfl rfl ⟨rfl, rfl, rfl, rfl, rfl⟩ rfl rfl rfl rfl rfl (by kernel_rfl) Tryd.func6 (by kernel_rfl)
    (of_decide_eq_true (by kernel_rfl)) (by unfold Func.isWrapper; first | (rw [if_pos (by decide +kernel)]; kernel_rfl) | (rw [if_neg (by decide +kernel)]; exact ⟨rfl, rfl⟩))
    (fun os started H enc _ => lifted os started H enc)
theorem row_holds : Rows.NatBackSaid := over
end Go.Proofs.YtfaglcfoamfelaaDoor.natBack
namespace Go.Proofs.YtfaglcfoamfelaaDoor
/-- The statement: the tied card. -/
theorem natBack_holds : Rows.NatBackCardSaid :=
  Claim7.holds_tied_plain_at .later [] [.data] true _ false
    natBack.row_holds (fun _ h => by cases h) (by kernel_rfl) (fun _ h => by cases h) natBack_row_tie rfl ⟨rfl, rfl⟩ (by kernel_rfl) rfl
    (fun f fn hf hfn => by
      obtain rfl : f = 6 := Option.some.inj ((show Tryd.prog.funcNamed "bushel/bushellaw02.NatBack" = some 6 by kernel_rfl).symm.trans hf) |>.symm
      obtain rfl : fn = Tryd.f6 := (Option.some.inj (Tryd.func6.symm.trans hfn)).symm
      exact ⟨by kernel_rfl, fun j t ht => by
        rw [Tryd.params6] at ht
        have hm : t ∈ [22, 22] := by simpa using Array.mem_of_getElem? ht
        have hall : ([22, 22].all fun u => !Tryd.prog.wantsStandIn u) = true := by kernel_rfl
        exact (show Tryd.prog.wantsStandIn t = false by simpa using List.all_eq_true.1 hall t hm)⟩)
    (by kernel_rfl)
#print axioms natBack_holds
end Go.Proofs.YtfaglcfoamfelaaDoor
