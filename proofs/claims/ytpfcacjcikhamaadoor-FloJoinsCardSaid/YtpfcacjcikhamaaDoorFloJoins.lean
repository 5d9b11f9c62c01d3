/- FloJoins: for any bool, any list of words and any int the statement's function returns true and changes nothing that was there. No condition; the row lists the two tables of math/bits as the program's text lays them. -/
import Derived.Test.YtpfcacjcikhamaaDoorRows
import Derived.Test.YtpfcacjcikhamaaDoorCards
import Derived.Test.YtpfcacjcikhamaaDoorTie
import Derived.Test.YtpfcacjcikhamaaDoorFlor
import Derived.SevenTiedAt
namespace Go.Proofs.YtpfcacjcikhamaaDoor.floJoins
set_option maxRecDepth 100000
open Go.ChangeShapes Go.WideShapes Go.ChangeAt Go.RowKit
set_option linter.unusedVariables false
theorem words_nat {a : List Int} (hd : Wd a) : ∃ z : Nat, wv a = (z : Int) := Int.eq_ofNat_of_zero_le (wv_range hd).1
theorem sign_fits (b : Bool) {R : Nat} (h : W64 R) : W64 (signN b R) := by
  unfold signN
  cases b with
  | false => rw [if_neg (by decide)]; exact h
  | true => rw [if_pos rfl]; exact flip_w64 h
theorem sign_w64 (b : Bool) (z : Nat) (e : Int) : W64 (signN b (nearW z e)) := sign_fits b (nearW_w64 z e)
set_option maxHeartbeats 4000000 in
theorem walk (b : Bool) (a0 : Option Addr) (len0 cap0 : Nat) (z0 : List Int) (e : Int) (w : World) (g0 : Given .u32 w (.slice a0 len0 cap0) z0) (m0 : len0 ≤ 9223372036854775807) (we : (Lit.int .i64 e).wf = true) (hT : Tab w) (hT2 : Tab64 w) :
    Calls Tryd.prog 7 #[.bool b, .slice a0 len0 cap0, .int .i64 e] w fun r w' => r = .returned (.bool true) ∧ Below w.heap.size w w' := by
  have l0 := len_max g0
  have hA := Lib.hid (fun w1 (h : Below w.heap.size w w1) => awake3_any w1 (hT.call h) (hT2.call h))
  have he : -9223372036854775808 ≤ e ∧ e ≤ 9223372036854775807 := by simpa [Lit.wf, IntKind.min, IntKind.max, IntKind.signed, IntKind.bits] using we
  by_cases hlen : 12 < len0
  · have b1 : (12 : Int) < (len0 : Int) := by omega
    clear g0 we hT hT2 l0 he hlen
    go_enter Tryd.func7, Tryd.ntmps7
    go_wp2_with fail
    refine (hA.out w (Below.refl _ _)).mono ?_; rintro r w1 ⟨rfl, hb⟩
    go_wp2_with fail
    go_ret
    exact ⟨rfl, hb⟩
  · have hW := g0.wlist (by omega)
    obtain ⟨z, hz⟩ := words_nat hW.2.1
    have hbits := (bits_len hW.2.1 hz (by omega)).1
    have hbz : bitsZ z ≤ 400 := by
      by_cases h : z = 0
      · subst h; decide
      · have := bits_words hW.2.1 (by omega)
        rw [hz] at this; omega
    have HJ := Lib.hid (join_any b _ z0 z e w hW (by omega) hz he.1 he.2 hT)
    have HN := Lib.hid (fun w1 (h : Below w.heap.size w w1) => num_words _ z0 w1 (hW.below h) (by omega))
    rw [hz] at HN
    have HR := Lib.hid (fun w1 v (hv : IsNum w1 v z) => rjoin_any b v z e w1 hv hbz he.1 he.2)
    have HS := Lib.hid (fun w => rsame_any _ _ w (sign_w64 b z e) (sign_w64 b z e))
    have hs : sameB (signN b (nearW z e)) (signN b (nearW z e)) = true := by unfold sameB; simp
    rw [hs] at HS
    have b1 : (len0 : Int) ≤ 12 := by omega
    generalize signN b (nearW z e) = R at *
    clear g0 we hT hT2 l0 he hlen hW hz hbz hbits hs
    go_enter Tryd.func7, Tryd.ntmps7
    go_wp2_with fail
    refine (HJ.out).mono ?_; rintro r w1 ⟨rfl, hb1⟩
    have HE := Lib.hid hb1
    have HN2 := Lib.hid (HN.out w1 hb1)
    clear hb1 HJ HN
    go_wp2_with fail
    refine (HN2.out).mono ?_; rintro r w2 ⟨q, rfl, hq, hb2⟩
    have HE := Lib.hid (HE.out.trans (hb2.mono HE.out.size))
    have HR2 := Lib.hid (HR.out w2 q hq)
    obtain ⟨nb, np, nl, nc, rfl⟩ := hq.shape
    clear hb2 hq HR HN2
    go_wp2_with fail
    refine (HR2.out).mono ?_; rintro r w3 ⟨rfl, hb3⟩
    have HE := Lib.hid (HE.out.trans (hb3.mono HE.out.size))
    clear hb3 HR2
    go_wp2_with fail
    refine (HS.out _).mono ?_; rintro r w4 ⟨rfl, hd⟩
    have HE := Lib.hid (HE.out.trans (hd.below.mono HE.out.size))
    clear hd HS
    go_wp2_with fail
    refine (hA.out _ HE.out).mono ?_; rintro r w5 ⟨rfl, hb5⟩
    go_wp2_with fail
    go_ret
    exact ⟨rfl, HE.out.trans (hb5.mono HE.out.size)⟩
set_option maxRecDepth 100000 in
theorem lifted (os : Os) (started : os.Started) (H : Type) (enc : TypeId × Value → H) :
    ReturnsInHanded {} Tryd.checked os 7 .any (fun w args => (Rows.floJoinsSpec.pre enc Tryd.prog Tryd.f7 [] false w args ∧ laidMetH Tryd.prog laid3 w) ∧ sizedMet enc Tryd.prog Tryd.f7 (OpenSpec.ofChange Rows.floJoinsSpec) false w args)
      (Rows.floJoinsSpec.post enc Tryd.prog Tryd.f7 false true false false) := by
  refine returnsInHanded_of_change_and (C := Tryd.checked) (X := fun w _ => laidMetH Tryd.prog laid3 w) (fun _ _ _ hh h => h.of_heap hh) own2 started (by kernel_rfl) Tryd.func7
    (ChangeSpec.witness_shaped (enc := enc) (C := Tryd.checked) (os := os) (X := fun w _ => laidMetH Tryd.prog laid3 w) false (World.doorLaid Tryd.prog 800 os) #[.bool false, .slice none 0 0, .int .i64 0] 8 rfl (World.shaped_of_RefB (by kernel_rfl) (by kernel_rfl)) (by kernel_rfl) (by kernel_rfl) (by kernel_rfl) (door_met3 os _)) ?_
  intro W base args ds gs before hval0 hW _ _ hL _
  have hTab := tab_of3 hL
  have hTab64 := tab64_of3 hL
  have hval : ∀ (j : Nat) t v, Tryd.f7.params[j]? = some t → args[j]? = some v → Value.okWide Tryd.prog W .any base t v := hval0
  have hW' := hW
  obtain ⟨p, q, hA0, hV, rfl, hfz, hnd⟩ := hW
  have hA : DataW.TrodAll enc Tryd.prog W 0 (fun _ => true) true Tryd.f7.params.toList args.toList ds p := hA0
  rw [Tryd.params7] at hA hval
  obtain ⟨v0, vs0, d0, ds0, p0, q0, hargs, rfl, rfl, h0, r0⟩ := trodAll_cons hA
  obtain ⟨v1, vs1, d1, ds1, p1, q1, rfl, rfl, rfl, h1, r1⟩ := trodAll_cons r0
  obtain ⟨v2, vs2, d2, ds2, p2, q2, rfl, rfl, rfl, h2, r2⟩ := trodAll_cons r1
  obtain ⟨rfl, rfl, rfl⟩ := trodAll_nil r2
  obtain rfl : args = #[v0, v1, v2] := by cases args; simp_all
  obtain ⟨rfl, rfl⟩ := trodVars_none hV
  obtain ⟨a0, rfl, rfl, rfl⟩ := open_bool Tryd.underlying4 (hval 0 4 v0 rfl rfl) h0
  obtain ⟨a1, len1, cap1, rfl⟩ := okWide_slice Tryd.underlying22 (hval 1 22 v1 rfl rfl)
  have k1 := h1
  have lt1 : ∀ x ∈ p1, x.block < W.heap.size := by obtain ⟨m, hm⟩ := k1; exact DataW.trod_lt m _ _ _ hm
  obtain ⟨z1, w1, m1⟩ : ∃ zs, Given .u32 W (.slice a1 len1 cap1) zs ∧ len1 ≤ 9223372036854775807 := by
    obtain ⟨fuel, hf⟩ := h1
    rcases open_ints Tryd.underlying22 Tryd.underlying31 (by kernel_rfl) hf with ⟨hcs, _⟩ | ⟨x, l, c, zs, hcs, _, hl, hm, hz, _, hcell, hwz⟩
    · simp [Value.cells] at hcs
      obtain ⟨rfl, rfl, rfl⟩ := hcs
      exact ⟨[], given_nil, by decide⟩
    · simp [Value.cells] at hcs
      obtain ⟨rfl, rfl, rfl⟩ := hcs
      exact ⟨_, given_row hl (by simpa using hz) hcell hwz, by unfold maxLen at hm; omega⟩
  obtain ⟨a2, rfl, rfl, rfl, w2⟩ := open_int Tryd.underlying3 (hval 2 3 v2 rfl rfl) h2
  clear hA0 hval0
  refine (walk a0 a1 len1 cap1 z1 a2 W w1 m1 w2 hTab hTab64).mono fun e W' ⟨he, bel⟩ => ?_
  subst he
  exact ⟨_, rfl, _, _, _, [], _, [], hW', trodAll_mk1 (shut_bool Tryd.underlying4 _), (trodAll_cons_mk (shut_bool Tryd.underlying4 _) (trodAll_cons_mk (Below.trod laidOut2 (by kernel_rfl) (of_decide_eq_true (by kernel_rfl)) k1 bel lt1) (trodAll_cons_mk (shut_int Tryd.underlying3 w2) trodAll_mk0))), rfl, bel.frame _, fun h => by cases h⟩

theorem over : Rows.floJoinsRow.holds Tryd.pinned (OpenSpec.ofChange Rows.floJoinsSpec) :=
  OpenClaim.holds_of_wide 7 Tryd.f7 rfl rfl rfl rfl rfl rfl rfl ⟨rfl, rfl, rfl, rfl, rfl⟩ rfl rfl rfl rfl rfl (by kernel_rfl) Tryd.func7 (by kernel_rfl)
    (of_decide_eq_true (by kernel_rfl)) (by unfold Func.isWrapper; first | (rw [if_pos (by decide +kernel)]; kernel_rfl) | (rw [if_neg (by decide +kernel)]; exact ⟨rfl, rfl⟩))
    (fun os started H enc _ => lifted os started H enc)
theorem row_holds : Rows.FloJoinsSaid := over
end Go.Proofs.YtpfcacjcikhamaaDoor.floJoins
namespace Go.Proofs.YtpfcacjcikhamaaDoor
/-- The statement: the tied card. -/
theorem floJoins_holds : Rows.FloJoinsCardSaid :=
  Claim7.holds_tied_plain_at .later [] [.data, .data] true _ false
    floJoins.row_holds (fun _ h => by cases h) (by kernel_rfl) (fun _ h => by cases h) floJoins_row_tie rfl ⟨rfl, rfl⟩ (by kernel_rfl) rfl
    (fun f fn hf hfn => by
      obtain rfl : f = 7 := Option.some.inj ((show Tryd.prog.funcNamed "bushel/bushellaw03.FloJoins" = some 7 by kernel_rfl).symm.trans hf) |>.symm
      obtain rfl : fn = Tryd.f7 := (Option.some.inj (Tryd.func7.symm.trans hfn)).symm
      exact ⟨by kernel_rfl, fun j t ht => by
        rw [Tryd.params7] at ht
        have hm : t ∈ [4, 22, 3] := by simpa using Array.mem_of_getElem? ht
        have hall : ([4, 22, 3].all fun u => !Tryd.prog.wantsStandIn u) = true := by kernel_rfl
        exact (show Tryd.prog.wantsStandIn t = false by simpa using List.all_eq_true.1 hall t hm)⟩)
    (by kernel_rfl)
#print axioms floJoins_holds
end Go.Proofs.YtpfcacjcikhamaaDoor
