/- NatTexts: for any list of words and any string the statement's function returns true and changes nothing that was there. No condition; the row lists math/bits.deBruijn32tab as the program's text lays it. -/
import Derived.Test.YtpfcacjcikhamaaDoorRows
import Derived.Test.YtpfcacjcikhamaaDoorCards
import Derived.Test.YtpfcacjcikhamaaDoorTie
import Derived.Test.YtpfcacjcikhamaaDoorReadr
import Derived.SevenTiedAt
import Derived.ChangeMaps5
namespace Go.Proofs.YtpfcacjcikhamaaDoor.natTexts
set_option maxRecDepth 100000
open Go.ChangeShapes Go.WideShapes Go.ChangeAt Go.RowKit
set_option linter.unusedVariables false
theorem text_any (u : Value) (a : List Int) (w : World) (hu : WList w u a) (la : a.length ≤ 1000000) :
    Calls Tryd.prog 26 #[u] w (TextPost (wv a) w) := by
  by_cases h : wv a = 0
  · rw [h]; exact text_zero u a w hu h
  · exact text_pos u a w hu (by have := (wv_range hu.2.1).1; omega) la
theorem ten_words (n : Nat) : (4294967296 : Int) ^ n ≤ 10 ^ (10 * n) := by
  have : (4294967296 : Nat) ^ n ≤ (10 ^ 10) ^ n := Nat.pow_le_pow_left (by decide) n
  rw [← Nat.pow_mul] at this
  have e1 : ((4294967296 ^ n : Nat) : Int) = (4294967296 : Int) ^ n := by simp
  have e2 : ((10 ^ (10 * n) : Nat) : Int) = (10 : Int) ^ (10 * n) := by simp
  omega
theorem dec_readable {l : List UInt8} {z : Int} (h : IsDec l z) (hz : z < 4294967296 ^ 20) : readable l = true ∧ decI l = z := by
  refine ⟨?_, h.2.1⟩
  have hlen : l.length ≤ 1000 := by
    by_cases hd : l.head? = some 48
    · rw [h.2.2.2 hd]; simp
    · have h1 := isDec_low h hd
      have h2 := ten_words 20
      by_cases q : l.length ≤ 1000
      · exact q
      · have := ten_mono (m := 10 * 20) (n := l.length - 1) (by omega)
        omega
  refine readable_of ?_ h.1
  have e1 : l.isEmpty = false := by cases hc : l with | nil => exact absurd hc h.2.2.1 | cons _ _ => rfl
  have e2 : (!l.head? == some 48 || l == [48]) = true := by
    by_cases hd : l.head? = some 48
    · rw [h.2.2.2 hd]; rfl
    · simp [hd]
  unfold GoodHead
  rw [e1, e2, decide_eq_true hlen]; rfl
theorem readable_len {l : List UInt8} (h : readable l = true) : l.all isDig = true ∧ l.length ≤ 1000 := by
  simp only [readable, Bool.and_eq_true, decide_eq_true_eq] at h
  exact ⟨h.2, h.1.1.2⟩
theorem ten_q (n : Nat) : (10 : Int) ^ n ≤ 4294967296 ^ n := by
  have : (10 : Nat) ^ n ≤ 4294967296 ^ n := Nat.pow_le_pow_left (by decide) n
  have e1 : ((10 ^ n : Nat) : Int) = (10 : Int) ^ n := by simp
  have e2 : ((4294967296 ^ n : Nat) : Int) = (4294967296 : Int) ^ n := by simp
  omega
theorem dec_words {l : List UInt8} (h : readable l = true) : ∃ n, n ≤ 1000 ∧ decI l < 4294967296 ^ n := by
  obtain ⟨h1, h2⟩ := readable_len h
  have h3 := (decI_range h1).2
  have h4 := ten_q l.length
  exact ⟨l.length, h2, by omega⟩
theorem bytes_eq {s t : ByteArray} (h : s.data.toList = t.data.toList) : s = t := by
  cases s; cases t
  congr 1
  exact Array.ext' h
theorem awake_from (w w1 : World) (hT : Tab w) (h : Below w.heap.size w w1) : Calls Tryd.prog 11 #[] w1 fun e w' => e = .returned (.bool true) ∧ Below w.heap.size w w' :=
  (awake2_any w1 (hT.call h)).mono fun e w' ⟨h1, h2⟩ => ⟨h1, h.trans (h2.mono h.size)⟩
set_option maxHeartbeats 4000000 in
theorem walk_short (v : Value) (z0 : List Int) (s : ByteArray) (w : World) (hv : WList w v z0) (k0 : z0.length ≤ 20) (k1 : s.size ≤ 1200) (hT : Tab w) :
    Calls Tryd.prog 4 #[v, .string s] w fun e w' => e = .returned (.bool true) ∧ Below w.heap.size w w' := by
  have HA := Lib.hid (fun w1 (h : Below w.heap.size w w1) => awake_from w w1 hT h)
  have hr0 := wv_range hv.2.1
  have hq0 := q_mono (m := z0.length) (n := 20) k0
  have hz20 : wv z0 < 4294967296 ^ 20 := by omega
  have HTx := Lib.hid (text_any v z0 w hv (by omega))
  have HN := Lib.hid (fun w1 (h : Below w.heap.size w w1) => num_words v z0 w1 (hv.below h) (by omega))
  have HX := Lib.hid (fun w1 u (hu : IsNum w1 u (wv z0)) => rtext_any u (wv z0) w1 hu hr0.1 ((sized_words hr0.1 hz20).mono (by omega)))
  have HI := Lib.hid (fun w1 u x (hu : IsNat w1 u (wv z0)) (hx : IsNum w1 x (wv z0)) => isw_nat u x (wv z0) 20 w1 hu hz20 (by decide) hx)
  have HRd := Lib.hid (fun (t : ByteArray) w1 (h : IsDec t.data.toList (wv z0)) (ht : t.size ≤ maxLen) => (And.intro (read_any t w1 ht) (dec_readable h hz20)))
  have HRs := Lib.hid (fun w1 => read_any s w1 (by unfold maxLen; omega))
  have HRr := Lib.hid (fun w1 => rread_any s w1 (by omega))
  have HDl := Lib.hid (fun (t : ByteArray) (h : IsDec t.data.toList (wv z0)) => show t.size ≤ maxLen from by
    have h1 := (readable_len (dec_readable h hz20).1).2
    have : t.data.toList.length = t.size := by simp
    unfold maxLen; omega)
  have b1 : (z0.length : Int) ≤ 20 := by omega
  have b2 : (s.size : Int) ≤ 1200 := by omega
  obtain ⟨p, c, rfl⟩ := hv.shape
  generalize wv z0 = z at *
  clear hv hT hr0 hq0 hz20
  go_enter Tryd.func4, Tryd.ntmps4
  go_wp2_with fail
  refine (HTx.out).mono ?_; rintro e w1 ⟨t, rfl, hdec, hb1⟩
  have HE := Lib.hid hb1
  have HR1 := Lib.hid (HRd.out t w1 hdec (HDl.out t hdec))
  have HDec := Lib.hid hdec
  clear hdec hb1 HTx HRd HDl
  go_wp2_with fail
  refine (HR1.out.1).mono ?_; rintro e w2 hR
  obtain ⟨hRT, hdz⟩ := HR1.out.2
  obtain ⟨-, x, rfl, hx, hb2⟩ := hR.resolve_right (by rintro ⟨h, -⟩; rw [hRT] at h; cases h)
  rw [hdz] at hx
  have HX1 := Lib.hid hx
  have HE := Lib.hid (HE.out.trans (hb2.mono HE.out.size))
  obtain ⟨xa, hxl, -, -⟩ := id hx
  obtain ⟨xp, xc, rfl⟩ := hxl.shape
  generalize xa.length = xl at *
  clear hR hRT hdz hx hb2 HR1 hxl
  go_wp2_with fail
  refine (HRs.out w2).mono ?_; rintro e w3 hR2
  rcases hR2 with ⟨hrd, y, rfl, hy, hb3⟩ | ⟨hrd, hno⟩
  · have HX1 := Lib.hid (HX1.out.below hb3)
    have HE := Lib.hid (HE.out.trans (hb3.mono HE.out.size))
    have HY := Lib.hid hy
    obtain ⟨ya, hyl, -, -⟩ := id hy
    obtain ⟨yp, yc, rfl⟩ := hyl.shape
    generalize ya.length = yl at *
    have Hrd := Lib.hid hrd
    clear hy hyl hb3 hrd
    go_wp2_with fail
    refine (HRr.out w3).mono ?_; rintro e w4 hR3
    obtain ⟨-, u, rfl, hu, hb4⟩ := hR3.resolve_right (by rintro ⟨h, -⟩; rw [Hrd.out] at h; cases h)
    obtain ⟨ub, up, ul, uc, rfl⟩ := hu.shape
    have hb5 := below_one w4 (.cells #[.bool ub, .slice up ul uc] 28)
    have hb45 := hb4.trans (hb5.mono hb4.size)
    have HX1 := Lib.hid (HX1.out.below hb45)
    have HY := Lib.hid (HY.out.below hb45)
    have HE := Lib.hid (HE.out.trans (hb45.mono HE.out.size))
    have HU := Lib.hid (hu.below hb5)
    have HIs : Hid (Calls Tryd.prog 18 #[.slice yp yl yc, .agg #[.bool ub, .slice up ul uc]] (w4.alloc (.cells #[.bool ub, .slice up ul uc] 28)) fun e w' => e = .returned (.bool true) ∧ Below (w4.alloc (.cells #[.bool ub, .slice up ul uc] 28)).heap.size (w4.alloc (.cells #[.bool ub, .slice up ul uc] 28)) w') := Lib.hid (by
      obtain ⟨n, hn, hlt⟩ := dec_words Hrd.out
      exact isw_nat _ _ _ n _ HY.out hlt (by omega) HU.out)
    clear hR3 hu hb4 hb5 hb45 HRr HRs HY HU
    go_wp2_with fail
    refine (HIs.out).mono ?_; rintro e w6 ⟨rfl, hb6⟩
    have HX1 := Lib.hid (HX1.out.below hb6)
    have HE := Lib.hid (HE.out.trans (hb6.mono HE.out.size))
    clear hb6 HIs
    go_wp2_with fail
    refine (HN.out _ HE.out).mono ?_; rintro e w7 ⟨q1, rfl, hq1, hb7⟩
    have HX1 := Lib.hid (HX1.out.below hb7)
    have HE := Lib.hid (HE.out.trans (hb7.mono HE.out.size))
    have HX2 := Lib.hid (HX.out w7 q1 hq1)
    obtain ⟨b7, p7, l7, c7, rfl⟩ := hq1.shape
    clear hb7 hq1
    go_wp2_with fail
    refine (HX2.out).mono ?_; rintro e w8 ⟨t2, rfl, hd2, hb8⟩
    obtain rfl : t2 = t := bytes_eq (isDec_unique hd2 HDec.out)
    have HX1 := Lib.hid (HX1.out.below hb8)
    have HE := Lib.hid (HE.out.trans (hb8.mono HE.out.size))
    clear hb8 hd2 HX2
    go_wp2_with fail
    refine (HN.out _ HE.out).mono ?_; rintro e w9 ⟨q2, rfl, hq2, hb9⟩
    have HE := Lib.hid (HE.out.trans (hb9.mono HE.out.size))
    have HI2 := Lib.hid (HI.out w9 _ q2 (HX1.out.below hb9) hq2)
    obtain ⟨b9, p9, l9, c9, rfl⟩ := hq2.shape
    clear hb9 hq2 HX1
    go_wp2_with fail
    refine (HI2.out).mono ?_; rintro e w10 ⟨rfl, hb10⟩
    have HE := Lib.hid (HE.out.trans (hb10.mono HE.out.size))
    clear hb10 HI2
    go_wp2_with fail
    refine (HA.out _ HE.out).mono ?_; rintro e w11 ⟨rfl, hE⟩
    go_wp2_with fail
    go_ret
    exact ⟨rfl, hE⟩
  · obtain ⟨rfl, hb3⟩ := hno
    have HX1 := Lib.hid (HX1.out.below hb3)
    have HE := Lib.hid (HE.out.trans (hb3.mono HE.out.size))
    have Hrd := Lib.hid hrd
    clear hb3 hrd
    go_wp2_with fail
    refine (HRr.out w3).mono ?_; rintro e w4 hR3
    obtain ⟨-, u, rfl, hu, hb4⟩ := hR3.resolve_left (by rintro ⟨h, -⟩; rw [Hrd.out] at h; cases h)
    obtain ⟨ub, up, ul, uc, rfl⟩ := hu.shape
    have hb5 := below_one w4 (.cells #[.bool ub, .slice up ul uc] 28)
    have hb45 := hb4.trans (hb5.mono hb4.size)
    have HX1 := Lib.hid (HX1.out.below hb45)
    have HE := Lib.hid (HE.out.trans (hb45.mono HE.out.size))
    clear hR3 hu hb4 hb5 hb45 HRr HRs
    go_wp2_with fail
    refine (HN.out _ HE.out).mono ?_; rintro e w7 ⟨q1, rfl, hq1, hb7⟩
    have HX1 := Lib.hid (HX1.out.below hb7)
    have HE := Lib.hid (HE.out.trans (hb7.mono HE.out.size))
    have HX2 := Lib.hid (HX.out w7 q1 hq1)
    obtain ⟨b7, p7, l7, c7, rfl⟩ := hq1.shape
    clear hb7 hq1
    go_wp2_with fail
    refine (HX2.out).mono ?_; rintro e w8 ⟨t2, rfl, hd2, hb8⟩
    obtain rfl : t2 = t := bytes_eq (isDec_unique hd2 HDec.out)
    have HX1 := Lib.hid (HX1.out.below hb8)
    have HE := Lib.hid (HE.out.trans (hb8.mono HE.out.size))
    clear hb8 hd2 HX2
    go_wp2_with fail
    refine (HN.out _ HE.out).mono ?_; rintro e w9 ⟨q2, rfl, hq2, hb9⟩
    have HE := Lib.hid (HE.out.trans (hb9.mono HE.out.size))
    have HI2 := Lib.hid (HI.out w9 _ q2 (HX1.out.below hb9) hq2)
    obtain ⟨b9, p9, l9, c9, rfl⟩ := hq2.shape
    clear hb9 hq2 HX1
    go_wp2_with fail
    refine (HI2.out).mono ?_; rintro e w10 ⟨rfl, hb10⟩
    have HE := Lib.hid (HE.out.trans (hb10.mono HE.out.size))
    clear hb10 HI2
    go_wp2_with fail
    refine (HA.out _ HE.out).mono ?_; rintro e w11 ⟨rfl, hE⟩
    go_wp2_with fail
    go_ret
    exact ⟨rfl, hE⟩
theorem walk_long (a0 : Option Addr) (len0 cap0 : Nat) (s : ByteArray) (w : World) (m0 : len0 ≤ 9223372036854775807) (ws : s.size ≤ maxLen) (h : 20 < len0 ∨ 1200 < s.size) (hT : Tab w) :
    Calls Tryd.prog 4 #[.slice a0 len0 cap0, .string s] w fun e w' => e = .returned (.bool true) ∧ Below w.heap.size w w' := by
  have HA := Lib.hid (awake_from w w hT (Below.refl _ _))
  unfold maxLen at ws
  have hc : (20 : Int) < (len0 : Int) ∨ ((len0 : Int) ≤ 20 ∧ (1200 : Int) < (s.size : Int)) := by omega
  clear hT h
  rcases hc with hc | ⟨hc, hc2⟩
  all_goals
    go_enter Tryd.func4, Tryd.ntmps4
    go_wp2_with fail
    refine (HA.out).mono ?_; rintro e w1 ⟨rfl, hE⟩
    go_wp2_with fail
    go_ret
    exact ⟨rfl, hE⟩
theorem walk (a0 : Option Addr) (len0 cap0 : Nat) (z0 : List Int) (s : ByteArray) (w : World) (g0 : Given .u32 w (.slice a0 len0 cap0) z0) (m0 : len0 ≤ 9223372036854775807) (ws : s.size ≤ maxLen) (hT : Tab w) :
    Calls Tryd.prog 4 #[.slice a0 len0 cap0, .string s] w fun e w' => e = .returned (.bool true) ∧ Below w.heap.size w w' := by
  have l0 := len_max g0
  by_cases h : len0 ≤ 20 ∧ s.size ≤ 1200
  · exact walk_short _ z0 s w (g0.wlist (by omega)) (by omega) h.2 hT
  · exact walk_long a0 len0 cap0 s w m0 ws (by omega) hT
set_option maxRecDepth 100000 in
theorem lifted (os : Os) (started : os.Started) (H : Type) (enc : TypeId × Value → H) :
    ReturnsInHanded {} Tryd.checked os 4 .any (fun w args => (Rows.natTextsSpec.pre enc Tryd.prog Tryd.f4 [] false w args ∧ laidMetH Tryd.prog laid2 w) ∧ sizedMet enc Tryd.prog Tryd.f4 (OpenSpec.ofChange Rows.natTextsSpec) false w args)
      (Rows.natTextsSpec.post enc Tryd.prog Tryd.f4 false true false false) := by
  refine returnsInHanded_of_change_and (C := Tryd.checked) (X := fun w _ => laidMetH Tryd.prog laid2 w) (fun _ _ _ hh h => h.of_heap hh) own2 started (by kernel_rfl) Tryd.func4
    (ChangeSpec.witness_shaped (enc := enc) (C := Tryd.checked) (os := os) (X := fun w _ => laidMetH Tryd.prog laid2 w) false (World.doorLaid Tryd.prog 400 os) #[.slice none 0 0, .string ByteArray.empty] 8 rfl (World.shaped_of_RefB (by kernel_rfl) (by kernel_rfl)) (by kernel_rfl) (by kernel_rfl) (by kernel_rfl) (door_met2 os _)) ?_
  intro W base args ds gs before hval0 hW _ _ hL _
  have hTab := tab_of hL
  have hval : ∀ (j : Nat) t v, Tryd.f4.params[j]? = some t → args[j]? = some v → Value.okWide Tryd.prog W .any base t v := hval0
  have hW' := hW
  obtain ⟨p, q, hA0, hV, rfl, hfz, hnd⟩ := hW
  have hA : DataW.TrodAll enc Tryd.prog W 0 (fun _ => true) true Tryd.f4.params.toList args.toList ds p := hA0
  rw [Tryd.params4] at hA hval
  obtain ⟨v0, vs0, d0, ds0, p0, q0, hargs, rfl, rfl, h0, r0⟩ := trodAll_cons hA
  obtain ⟨v1, vs1, d1, ds1, p1, q1, rfl, rfl, rfl, h1, r1⟩ := trodAll_cons r0
  obtain ⟨rfl, rfl, rfl⟩ := trodAll_nil r1
  obtain rfl : args = #[v0, v1] := by cases args; simp_all
  obtain ⟨rfl, rfl⟩ := trodVars_none hV
  obtain ⟨a0, len0, cap0, rfl⟩ := okWide_slice Tryd.underlying22 (hval 0 22 v0 rfl rfl)
  have k0 := h0
  have lt0 : ∀ x ∈ p0, x.block < W.heap.size := by obtain ⟨m, hm⟩ := k0; exact DataW.trod_lt m _ _ _ hm
  obtain ⟨z0, w0, m0⟩ : ∃ zs, Given .u32 W (.slice a0 len0 cap0) zs ∧ len0 ≤ 9223372036854775807 := by
    obtain ⟨fuel, hf⟩ := h0
    rcases open_ints Tryd.underlying22 Tryd.underlying31 (by kernel_rfl) hf with ⟨hcs, _⟩ | ⟨x, l, c, zs, hcs, _, hl, hm, hz, _, hcell, hwz⟩
    · simp [Value.cells] at hcs
      obtain ⟨rfl, rfl, rfl⟩ := hcs
      exact ⟨[], given_nil, by decide⟩
    · simp [Value.cells] at hcs
      obtain ⟨rfl, rfl, rfl⟩ := hcs
      exact ⟨_, given_row hl (by simpa using hz) hcell hwz, by unfold maxLen at hm; omega⟩
  obtain ⟨a1, rfl, rfl, rfl, w1⟩ := Go.ChangeMaps.open_string Tryd.underlying9 (hval 1 9 v1 rfl rfl) h1
  clear hA0 hval0
  refine (walk a0 len0 cap0 z0 a1 W w0 m0 w1 hTab).mono fun e W' ⟨he, bel⟩ => ?_
  subst he
  exact ⟨_, rfl, _, _, _, [], _, [], hW', trodAll_mk1 (shut_bool Tryd.underlying4 _), (trodAll_cons_mk (Below.trod laidOut2 (by kernel_rfl) (of_decide_eq_true (by kernel_rfl)) k0 bel lt0) (trodAll_cons_mk (Go.ChangeMaps.shut_string Tryd.underlying9 w1) trodAll_mk0)), rfl, bel.frame _, fun h => by cases h⟩

theorem over : Rows.natTextsRow.holds Tryd.pinned (OpenSpec.ofChange Rows.natTextsSpec) :=
  OpenClaim.holds_of_wide 4 Tryd.f4 rfl rfl rfl rfl rfl rfl rfl ⟨rfl, rfl, rfl, rfl, rfl⟩ rfl rfl rfl rfl rfl (by kernel_rfl) Tryd.func4 (by kernel_rfl)
    (of_decide_eq_true (by kernel_rfl)) (by unfold Func.isWrapper; first | (rw [if_pos (by decide +kernel)]; kernel_rfl) | (rw [if_neg (by decide +kernel)]; exact ⟨rfl, rfl⟩))
    (fun os started H enc _ => lifted os started H enc)
theorem row_holds : Rows.NatTextsSaid := over
end Go.Proofs.YtpfcacjcikhamaaDoor.natTexts
namespace Go.Proofs.YtpfcacjcikhamaaDoor
/-- The statement: the tied card. -/
theorem natTexts_holds : Rows.NatTextsCardSaid :=
  Claim7.holds_tied_plain_at .later [] [.data] true _ false
    natTexts.row_holds (fun _ h => by cases h) (by kernel_rfl) (fun _ h => by cases h) natTexts_row_tie rfl ⟨rfl, rfl⟩ (by kernel_rfl) rfl
    (fun f fn hf hfn => by
      obtain rfl : f = 4 := Option.some.inj ((show Tryd.prog.funcNamed "bushel/bushellaw02.NatTexts" = some 4 by kernel_rfl).symm.trans hf) |>.symm
      obtain rfl : fn = Tryd.f4 := (Option.some.inj (Tryd.func4.symm.trans hfn)).symm
      exact ⟨by kernel_rfl, fun j t ht => by
        rw [Tryd.params4] at ht
        have hm : t ∈ [22, 9] := by simpa using Array.mem_of_getElem? ht
        have hall : ([22, 9].all fun u => !Tryd.prog.wantsStandIn u) = true := by kernel_rfl
        exact (show Tryd.prog.wantsStandIn t = false by simpa using List.all_eq_true.1 hall t hm)⟩)
    (by kernel_rfl)
#print axioms natTexts_holds
end Go.Proofs.YtpfcacjcikhamaaDoor
