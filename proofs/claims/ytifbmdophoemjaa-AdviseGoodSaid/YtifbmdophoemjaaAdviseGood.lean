/- AdviseGood: for any number of dimensions, sizes and three sets the statement's function returns true and changes nothing that was there. No condition. -/
import Derived.Test.YtifbmdophoemjaaRows
import Derived.Test.YtifbmdophoemjaaAdvj
namespace Go.Proofs.Ytifbmdophoemjaa.adviseGood
set_option maxRecDepth 100000
open Go.ChangeShapes Go.WideShapes Go.ChangeAt Go.RowKit
set_option linter.unusedVariables false
theorem own : ownKnob Try.prog.godebug = none := by kernel_rfl
theorem laidOut : laidOutB Try.prog = true := by kernel_rfl
set_option maxHeartbeats 16000000 in
theorem walk (d : Int) (a1 : Option Addr) (len1 cap1 : Nat) (s : List Int) (x y z : Int) (w : World) (hd : (Lit.int .i64 d).wf = true) (w1 : Given .i64 w (.slice a1 len1 cap1) s) (hx : 0 ≤ x ∧ x ≤ 4294967295) (hy : 0 ≤ y ∧ y ≤ 4294967295) (hz : 0 ≤ z ∧ z ≤ 4294967295) :
    Calls Try.prog 5 #[.int .i64 d, .slice a1 len1 cap1, .agg #[.int .u32 x, .int .u32 y, .int .u32 z]] w fun e w' => e = .returned (.bool true) ∧ Below w.heap.size w w' := by
  have HA := Lib.hid (fun w => awake18_any w)
  have hlen1 := len_max w1
  obtain rfl : s.length = len1 := by omega
  obtain ⟨a, rfl, ha⟩ : ∃ n : Nat, x = n ∧ n < 4294967296 := ⟨x.toNat, by omega, by omega⟩
  obtain ⟨b, rfl, hb⟩ : ∃ n : Nat, y = n ∧ n < 4294967296 := ⟨y.toNat, by omega, by omega⟩
  obtain ⟨c, rfl, hc⟩ : ∃ n : Nat, z = n ∧ n < 4294967296 := ⟨z.toNat, by omega, by omega⟩
  have HB0 := Lib.hid (below_one w (.cells #[.int .u32 (a : Int), .int .u32 (b : Int), .int .u32 (c : Int)] 37))
  have HS := Lib.hid (show Szs (w.alloc (.cells #[.int .u32 (a : Int), .int .u32 (b : Int), .int .u32 (c : Int)] 37)) (.slice a1 s.length cap1) s from Ints.below w1.1 (below_one w (.cells #[.int .u32 (a : Int), .int .u32 (b : Int), .int .u32 (c : Int)] 37)))
  have HX3 := Lib.hid (set3_box w a b c)
  have HX2 := Lib.hid (set2_box w a b c)
  have HD3 := Lib.hid (show Bd [a, b, c] from fun v hv => by simp at hv; omega)
  have HD2 := Lib.hid (show Bd [a, b] from fun v hv => by simp at hv; omega)
  clear w1 hlen1 hx hy hz ha hb hc
  by_cases h1 : 100 < s.length
  · have h2 : (100 : Int) < (s.length : Int) := by omega
    go_enter Try.func5, Try.ntmps5
    go_wp2_with fail
    refine (HA.out _).mono ?_; rintro e w1 ⟨rfl, hb⟩
    have HZ := Lib.hid (below_then HB0.out hb)
    clear hb
    go_wp2_with fail
    go_ret
    exact ⟨rfl, HZ.out⟩
  have h1' : ¬ (100 : Int) < (s.length : Int) := by omega
  generalize hw0 : w.alloc (.cells #[.int .u32 (a : Int), .int .u32 (b : Int), .int .u32 (c : Int)] 37) = w0 at *
  have HW0 := Lib.hid hw0
  have HP2 := Lib.hid (pchoose_any w0 d 2 _ s hd rfl HS.out (by omega))
  have HP3 := Lib.hid (fun w1 (hb1 : Below w0.heap.size w0 w1) => pchoose_any w1 d 3 _ s hd rfl (HS.out.below hb1) (by omega))
  have HG := Lib.hid (fun w1 uv vs (hb1 : Below w0.heap.size w0 w1) hu hb hvl => pgain_any w1 d _ uv s vs hd (HS.out.below hb1) hu hb (by omega) hvl)
  clear hw0
  by_cases hck : checkN d s [] = 0
  rotate_left
  · have HP22 := Lib.hid (show Calls Try.prog 11 #[.int .i64 d, .slice a1 s.length cap1, .int .i64 2] w0 fun e w' => e = .returned (.tuple #[.slice none 0 0, .int .i64 (checkN d s [])]) ∧ Below w0.heap.size w0 w' from by
      refine HP2.out.mono ?_
      rintro e w1 ⟨v, rfl, (⟨h, -⟩ | ⟨-, rfl⟩), hb⟩
      · exact absurd h hck
      · exact ⟨rfl, hb⟩)
    have HP33 := Lib.hid (show ∀ w1, Below w0.heap.size w0 w1 → Calls Try.prog 11 #[.int .i64 d, .slice a1 s.length cap1, .int .i64 3] w1 fun e w' => e = .returned (.tuple #[.slice none 0 0, .int .i64 (checkN d s [])]) ∧ Below w1.heap.size w1 w' from fun w1 hb1 => by
      refine (HP3.out w1 hb1).mono ?_
      rintro e w1 ⟨v, rfl, (⟨h, -⟩ | ⟨-, rfl⟩), hb⟩
      · exact absurd h hck
      · exact ⟨rfl, hb⟩)
    clear HP2 HP3 HG HX2 HX3 HD2 HD3
    generalize checkN d s [] = C at *
    have c2 : (C != 0) = true := by rw [bne_iff_ne]; exact hck
    clear hck h1
    go_enter Try.func5, Try.ntmps5
    go_wp2_with fail
    rw [HW0.out]
    refine Calls.mono HP22.out ?_; rintro e w1 ⟨rfl, hb⟩
    have HB1 := Lib.hid hb
    have HB2 := Lib.hid (below_then HB0.out hb)
    clear hb HP22 HW0
    go_wp2_with fail
    refine Calls.mono (HP33.out _ HB1.out) ?_; rintro e w2 ⟨rfl, hb⟩
    have HB3 := Lib.hid (below_then HB2.out hb)
    clear hb HP33 HB1 HB2
    go_wp2_with fail
    refine (HA.out _).mono ?_; rintro e w3 ⟨rfl, hb⟩
    have HZ := Lib.hid (below_then HB3.out hb)
    clear hb
    go_wp2_with fail
    go_ret
    exact ⟨rfl, HZ.out⟩
  · obtain ⟨hw, -⟩ := check_ok hck
    obtain ⟨n, rfl, hk1, hk6, hlen, hok⟩ := wrong_ok hw
    have hp := pow64 hk6
    have h64 : s.length ≤ 64 := by omega
    have h0 : 0 < s.length := by omega
    have HP22 := Lib.hid (show Calls Try.prog 11 #[.int .i64 n, .slice a1 s.length cap1, .int .i64 2] w0 fun e w' => ∃ u, e = .returned (.tuple #[u, .int .i64 0]) ∧ Msk w' u (choN s 2) ∧ Below w0.heap.size w0 w' from by
      refine HP2.out.mono ?_
      rintro e w1 ⟨v, rfl, (⟨-, u, rfl, hu⟩ | ⟨h, -⟩), hb⟩
      · exact ⟨u, rfl, hu, hb⟩
      · exact absurd hck h)
    have HP33 := Lib.hid (show ∀ w1, Below w0.heap.size w0 w1 → Calls Try.prog 11 #[.int .i64 n, .slice a1 s.length cap1, .int .i64 3] w1 fun e w' => ∃ u, e = .returned (.tuple #[u, .int .i64 0]) ∧ Msk w' u (choN s 3) ∧ Below w1.heap.size w1 w' from fun w1 hb1 => by
      refine (HP3.out w1 hb1).mono ?_
      rintro e w1 ⟨v, rfl, (⟨-, u, rfl, hu⟩ | ⟨h, -⟩), hb⟩
      · exact ⟨u, rfl, hu, hb⟩
      · exact absurd hck h)
    have hv2 := (cho_is s 2).2.1
    have hv3 := (cho_is s 3).2.1
    have hcl2 := cho_len s 2
    have hcl3 := cho_len s 3
    have hbd : ∀ k, Bd (choN s k) := fun k v hv => by have := (cho_is s k).2.1 v hv; omega
    have HG2 := Lib.hid (fun w1 uv hb1 hu => HG.out w1 uv (choN s 2) hb1 hu (hbd 2) (by omega))
    have HG3 := Lib.hid (fun w1 uv hb1 hu => HG.out w1 uv (choN s 3) hb1 hu (hbd 3) (by omega))
    have HGA := Lib.hid (fun w1 uv hb1 hu => HG.out w1 uv [a, b] hb1 hu HD2.out (by simp))
    have HGB := Lib.hid (fun w1 uv hb1 hu => HG.out w1 uv [a, b, c] hb1 hu HD3.out (by simp))
    have all_ok : ∀ vs : List Nat, (∀ v ∈ vs, v < s.length) → checkN n s vs = 0 := fun vs h => check_yes hw (fun k hk => h _ (getD_memN hk))
    rw [gainR_ok (all_ok _ hv2)] at HG2
    rw [gainR_ok (all_ok _ hv3)] at HG3
    have r0 := cost_range (vs := []) hok h0 h64 (fun v hv => nomatch hv)
    have r2 := cost_range hok h0 h64 hv2
    have r3 := cost_range hok h0 h64 hv3
    have gd2 := fun ha hb => @good_two s a b ha hb
    have gd3 := fun ha hb hc => @good_three s a b c ha hb hc
    have no_ok : ∀ vs : List Nat, ¬ checkN n s vs = 0 → checkN n s vs = 11 := fun vs h => by
      unfold checkN at h ⊢
      rw [if_pos hw] at h ⊢
      by_cases q : vs.all (fun v => decide (v < s.length)) = true
      · rw [if_pos q] at h; exact absurd rfl h
      · rw [if_neg q]
    clear HP2 HP3 HG HD2 HD3
    have main : ∀ (X Y P I Q J : Int), (-70368744177664 ≤ X ∧ X ≤ 70368744177664) → (-70368744177664 ≤ Y ∧ Y ≤ 70368744177664) → (-70368744177664 ≤ P ∧ P ≤ 70368744177664) → (-70368744177664 ≤ Q ∧ Q ≤ 70368744177664) →
        ((I = 0 ∧ 3 * P ≤ 4 * X) ∨ I = 11) → ((J = 0 ∧ 19 * Q ≤ 27 * Y) ∨ J = 11) →
        (∀ w1 uv, Below w0.heap.size w0 w1 → Msk w1 uv (choN s 2) → Calls Try.prog 8 #[.int .i64 n, .slice a1 s.length cap1, uv] w1 fun e w' => e = .returned (.tuple #[.int .i64 X, .int .i64 0]) ∧ Below w1.heap.size w1 w') →
        (∀ w1 uv, Below w0.heap.size w0 w1 → Msk w1 uv (choN s 3) → Calls Try.prog 8 #[.int .i64 n, .slice a1 s.length cap1, uv] w1 fun e w' => e = .returned (.tuple #[.int .i64 Y, .int .i64 0]) ∧ Below w1.heap.size w1 w') →
        (∀ w1 uv, Below w0.heap.size w0 w1 → Msk w1 uv [a, b] → Calls Try.prog 8 #[.int .i64 n, .slice a1 s.length cap1, uv] w1 fun e w' => e = .returned (.tuple #[.int .i64 P, .int .i64 I]) ∧ Below w1.heap.size w1 w') →
        (∀ w1 uv, Below w0.heap.size w0 w1 → Msk w1 uv [a, b, c] → Calls Try.prog 8 #[.int .i64 n, .slice a1 s.length cap1, uv] w1 fun e w' => e = .returned (.tuple #[.int .i64 Q, .int .i64 J]) ∧ Below w1.heap.size w1 w') →
        Calls Try.prog 5 #[.int .i64 n, .slice a1 s.length cap1, .agg #[.int .u32 (a : Int), .int .u32 (b : Int), .int .u32 (c : Int)]] w fun e w' => e = .returned (.bool true) ∧ Below w.heap.size w w' := by
      intro X Y P I Q J bX bY bP bQ hI hJ G2 G3 GA GB
      have H2 := Lib.hid G2
      have H3 := Lib.hid G3
      have H4 := Lib.hid GA
      have H5 := Lib.hid GB
      have w1X : wrap64 (4 * X) = 4 * X := wrap64_in (by omega) (by omega)
      have w1P : wrap64 (3 * P) = 3 * P := wrap64_in (by omega) (by omega)
      have w1Y : wrap64 (27 * Y) = 27 * Y := wrap64_in (by omega) (by omega)
      have w1Q : wrap64 (19 * Q) = 19 * Q := wrap64_in (by omega) (by omega)
      have w2X : IntKind.i64.wrap (4 * X) = 4 * X := IntWalk.i64_in _ (by omega)
      have w2P : IntKind.i64.wrap (3 * P) = 3 * P := IntWalk.i64_in _ (by omega)
      have w2Y : IntKind.i64.wrap (27 * Y) = 27 * Y := IntWalk.i64_in _ (by omega)
      have w2Q : IntKind.i64.wrap (19 * Q) = 19 * Q := IntWalk.i64_in _ (by omega)
      clear G2 G3 GA GB HG2 HG3 HGA HGB gd2 gd3 r0 r2 r3 hv2 hv3 hcl2 hcl3 hbd all_ok no_ok hw hck hok hlen hp hk1 hk6 h1 bX bY bP bQ
      generalize choN s 2 = L2 at *
      generalize choN s 3 = L3 at *
      go_enter Try.func5, Try.ntmps5
      go_wp2_with fail
      rw [HW0.out]
      refine Calls.mono HP22.out ?_; rintro e w1 ⟨u, rfl, hu, hb⟩
      have HU := Lib.hid hu
      have HQ1 := Lib.hid hb
      have HB1 := Lib.hid (below_then HB0.out hb)
      obtain ⟨p, pc, rfl⟩ := hu.len
      clear hb hu HP22 HW0
      go_wp2_with fail
      refine Calls.mono (HP33.out _ HQ1.out) ?_; rintro e w2 ⟨t, rfl, ht, hb⟩
      have HT := Lib.hid ht
      have HQ2 := Lib.hid (below_then HQ1.out hb)
      have HB2 := Lib.hid (below_then HB1.out hb)
      have H2n := Lib.hid (H2.out _ _ HQ2.out (HU.out.below hb))
      obtain ⟨q, qc, rfl⟩ := ht.len
      clear hb ht HP33 H2 HQ1 HB1 HU
      go_wp2_with fail
      refine Calls.mono H2n.out ?_; rintro e w3 ⟨rfl, hb⟩
      have HQ3 := Lib.hid (below_then HQ2.out hb)
      have HB3 := Lib.hid (below_then HB2.out hb)
      have H3n := Lib.hid (H3.out _ _ HQ3.out (HT.out.below hb))
      clear hb H2n HQ2 HB2 HT H3
      go_wp2_with fail
      refine Calls.mono H3n.out ?_; rintro e w4 ⟨rfl, hb⟩
      have HQ4 := Lib.hid (below_then HQ3.out hb)
      have HB4 := Lib.hid (below_then HB3.out hb)
      have H4n := Lib.hid (H4.out _ _ HQ4.out (HX2.out.below HQ4.out))
      clear hb H3n HQ3 HB3 H4
      go_wp2_with fail
      refine Calls.mono H4n.out ?_; rintro e w5 ⟨rfl, hb⟩
      have HQ5 := Lib.hid (below_then HQ4.out hb)
      have HB5 := Lib.hid (below_then HB4.out hb)
      have H5n := Lib.hid (H5.out _ _ HQ5.out (HX3.out.below HQ5.out))
      clear hb H4n HQ4 HB4 H5
      go_wp2_with fail
      refine Calls.mono H5n.out ?_; rintro e w6 ⟨rfl, hb⟩
      have HB6 := Lib.hid (below_then HB5.out hb)
      clear hb H5n HQ5 HB5 HX2 HX3 HS
      rcases hI with ⟨rfl, hI⟩ | rfl
      · rcases hJ with ⟨rfl, hJ⟩ | rfl
        · go_wp2_with fail
          refine (HA.out _).mono ?_; rintro e w7 ⟨rfl, hb⟩
          have HZ := Lib.hid (below_then HB6.out hb)
          clear hb
          go_wp2_with fail
          go_ret
          exact ⟨rfl, HZ.out⟩
        · go_wp2_with fail
          refine (HA.out _).mono ?_; rintro e w7 ⟨rfl, hb⟩
          have HZ := Lib.hid (below_then HB6.out hb)
          clear hb
          go_wp2_with fail
          go_ret
          exact ⟨rfl, HZ.out⟩
      · rcases hJ with ⟨rfl, hJ⟩ | rfl
        · go_wp2_with fail
          refine (HA.out _).mono ?_; rintro e w7 ⟨rfl, hb⟩
          have HZ := Lib.hid (below_then HB6.out hb)
          clear hb
          go_wp2_with fail
          go_ret
          exact ⟨rfl, HZ.out⟩
        · go_wp2_with fail
          refine (HA.out _).mono ?_; rintro e w7 ⟨rfl, hb⟩
          have HZ := Lib.hid (below_then HB6.out hb)
          clear hb
          go_wp2_with fail
          go_ret
          exact ⟨rfl, HZ.out⟩
    have get2 : ∀ h : checkN n s [a, b] = 0, a < s.length ∧ b < s.length := fun h => by
      have := (check_ok h).2
      exact ⟨this a (by simp), this b (by simp)⟩
    have get3 : ∀ h : checkN n s [a, b, c] = 0, a < s.length ∧ b < s.length ∧ c < s.length := fun h => by
      have := (check_ok h).2
      exact ⟨this a (by simp), this b (by simp), this c (by simp)⟩
    by_cases k2 : checkN n s [a, b] = 0
    · rw [gainR_ok k2] at HGA
      have q2 := get2 k2
      have rA := cost_range hok h0 h64 (check_ok k2).2
      by_cases k3 : checkN n s [a, b, c] = 0
      · rw [gainR_ok k3] at HGB
        have q3 := get3 k3
        have rB := cost_range hok h0 h64 (check_ok k3).2
        exact main _ _ _ _ _ _ (by omega) (by omega) (by omega) (by omega) (.inl ⟨rfl, gd2 q2.1 q2.2⟩) (.inl ⟨rfl, gd3 q3.1 q3.2.1 q3.2.2⟩) HG2.out HG3.out HGA.out HGB.out
      · rw [gainR_no k3, no_ok _ k3] at HGB
        exact main _ _ _ _ _ _ (by omega) (by omega) (by omega) (by omega) (.inl ⟨rfl, gd2 q2.1 q2.2⟩) (.inr rfl) HG2.out HG3.out HGA.out HGB.out
    · rw [gainR_no k2, no_ok _ k2] at HGA
      by_cases k3 : checkN n s [a, b, c] = 0
      · exact absurd (all_ok [a, b] (fun v hv => (check_ok k3).2 v (by simp at hv ⊢; omega))) k2
      · rw [gainR_no k3, no_ok _ k3] at HGB
        exact main _ _ _ _ _ _ (by omega) (by omega) (by omega) (by omega) (.inr rfl) (.inr rfl) HG2.out HG3.out HGA.out HGB.out
set_option maxRecDepth 100000 in
theorem lifted (os : Os) (started : os.Started) (H : Type) (enc : TypeId × Value → H) :
    ReturnsInHanded {} Try.checked os 5 .any (Rows.adviseGoodSpec.pre6 enc Try.prog Try.f5 Rows.adviseGoodRow.domain false) (Rows.adviseGoodSpec.post enc Try.prog Try.f5 false true false false) := by
  refine returnsInHanded_of_change (C := Try.checked) own started (by kernel_rfl) Try.func5
    (ChangeSpec.witness6 (enc := enc) (C := Try.checked) false ⟨#[], #[.int .i64 0, .slice none 0 0, .agg #[.int .u32 0, .int .u32 0, .int .u32 0]], []⟩ 8 (by kernel_rfl) (by kernel_rfl) (by kernel_rfl) (by kernel_rfl)) ?_
  intro W base args ds gs before hval0 hW hcnd _
  have hval : ∀ (j : Nat) t v, Try.f5.params[j]? = some t → args[j]? = some v → Value.okWide Try.prog W .any base t v := hval0
  have hW' := hW
  obtain ⟨p, q, hA0, hV, rfl, hfz, hnd⟩ := hW
  have hA : DataW.TrodAll enc Try.prog W 0 (fun _ => true) true Try.f5.params.toList args.toList ds p := hA0
  rw [Try.params5] at hA hval
  obtain ⟨v0, vs0, d0, ds0, p0, q0, hargs, rfl, rfl, h0, r0⟩ := trodAll_cons hA
  obtain ⟨v1, vs1, d1, ds1, p1, q1, rfl, rfl, rfl, h1, r1⟩ := trodAll_cons r0
  obtain ⟨v2, vs2, d2, ds2, p2, q2, rfl, rfl, rfl, h2, r2⟩ := trodAll_cons r1
  obtain ⟨rfl, rfl, rfl⟩ := trodAll_nil r2
  obtain rfl : args = #[v0, v1, v2] := by cases args; simp_all
  obtain ⟨rfl, rfl⟩ := trodVars_none hV
  obtain ⟨a0, rfl, rfl, rfl, w0⟩ := open_int Try.underlying3 (hval 0 3 v0 rfl rfl) h0
  obtain ⟨a1, len1, cap1, rfl⟩ := okWide_slice Try.underlying22 (hval 1 22 v1 rfl rfl)
  have k1 := h1
  have lt1 : ∀ x ∈ p1, x.block < W.heap.size := by obtain ⟨m, hm⟩ := k1; exact DataW.trod_lt m _ _ _ hm
  obtain ⟨z1, w1⟩ : ∃ zs, Given .i64 W (.slice a1 len1 cap1) zs := by
    obtain ⟨fuel, hf⟩ := h1
    rcases open_ints Try.underlying22 Try.underlying2 (by kernel_rfl) hf with ⟨hcs, _⟩ | ⟨x, l, c, zs, hcs, _, hl, hm, hz, _, hcell, hwz⟩
    · simp [Value.cells] at hcs
      obtain ⟨rfl, rfl, rfl⟩ := hcs
      exact ⟨[], given_nil⟩
    · simp [Value.cells] at hcs
      obtain ⟨rfl, rfl, rfl⟩ := hcs
      exact ⟨_, given_row hl (by simpa using hz) hcell hwz⟩
  have k2 := h2
  have lt2 : ∀ x ∈ p2, x.block < W.heap.size := by obtain ⟨m, hm⟩ := k2; exact DataW.trod_lt m _ _ _ hm
  obtain ⟨x2, y2, z2, rfl, e2, f2, g2⟩ := sets3_18 (hval 2 37 v2 rfl rfl) h2
  clear hA0 hval0
  refine (walk a0 a1 len1 cap1 z1 x2 y2 z2 W w0 w1 e2 f2 g2).mono fun e W' ⟨he, bel⟩ => ?_
  subst he
  exact ⟨_, rfl, _, _, _, [], _, [], hW', trodAll_mk1 (shut_bool Try.underlying4 _), (trodAll_cons_mk (shut_int Try.underlying3 w0) (trodAll_cons_mk (Below.trod laidOut (by kernel_rfl) (of_decide_eq_true (by kernel_rfl)) k1 bel lt1) (trodAll_cons_mk (Below.trod laidOut (by kernel_rfl) (of_decide_eq_true (by kernel_rfl)) k2 bel lt2) trodAll_mk0))), rfl, bel.frame _, fun h => by cases h⟩

theorem over : Rows.adviseGoodRow.holds Try.pinned (OpenSpec.ofChange Rows.adviseGoodSpec) :=
  OpenClaim.holds_of_wide 5 Try.f5 rfl rfl rfl rfl rfl rfl rfl ⟨rfl, rfl, rfl, rfl, rfl⟩ rfl rfl rfl rfl rfl (by kernel_rfl) Try.func5 (by kernel_rfl)
    (of_decide_eq_true (by kernel_rfl)) (by unfold Func.isWrapper; first | (rw [if_pos (by decide +kernel)]; kernel_rfl) | (rw [if_neg (by decide +kernel)]; exact ⟨rfl, rfl⟩))
    (fun os started H enc _ => lifted os started H enc)
end Go.Proofs.Ytifbmdophoemjaa.adviseGood
namespace Go.Proofs.Ytifbmdophoemjaa
/-- The statement. -/
theorem adviseGood_holds : Rows.AdviseGoodSaid := adviseGood.over
#print axioms adviseGood_holds
end Go.Proofs.Ytifbmdophoemjaa
