/- FloKeys: for any two floats and any key the statement's function returns true and changes nothing that was there. No condition; the row lists the two tables of math/bits as the program's text lays them. -/
import Derived.Test.YtpfcacjcikhamaaDoorRows
import Derived.Test.YtpfcacjcikhamaaDoorCards
import Derived.Test.YtpfcacjcikhamaaDoorTie
import Derived.Test.YtpfcacjcikhamaaDoorFlon
import Derived.SevenTiedAt
namespace Go.Proofs.YtpfcacjcikhamaaDoor.floKeys
set_option maxRecDepth 100000
open Go.ChangeShapes Go.WideShapes Go.ChangeAt Go.RowKit
set_option linter.unusedVariables false
theorem w64_of {a : Nat} (h : (Lit.float .f64 a).wf = true) : W64 a := by
  simpa [Lit.wf, W64] using h
theorem from_w64 {k : Int} (h0 : 0 ≤ k) (h1 : k ≤ 18446744073709551615) : W64 (fromN k) := by
  unfold W64 fromN
  by_cases e : k = 18446744073709551615
  · rw [if_pos e]; decide
  · rw [if_neg e]
    by_cases g : 9223372036854775808 ≤ k
    · rw [if_pos g]; omega
    · rw [if_neg g]; omega
/-- A key that no float has. -/
theorem none_key {k : Int} (h0 : 0 ≤ k) (h1 : k ≤ 18446744073709551615) (hk : k ≠ 18446744073709551615) (hn : isNaNB (fromN k) = true) : k < 4503599627370495 ∨ 18442240474082181120 < k := by
  unfold isNaNB fromN at hn
  rw [if_neg hk] at hn
  simp only [decide_eq_true_eq] at hn
  by_cases g : 9223372036854775808 ≤ k
  · rw [if_pos g] at hn; omega
  · rw [if_neg g] at hn; omega
/-- A key's float has that key. -/
theorem key_from {k : Int} (h0 : 0 ≤ k) (h1 : k ≤ 18446744073709551615) (h : k = 18446744073709551615 ∨ isNaNB (fromN k) = false) : keyI (fromN k) = k := by
  by_cases e : k = 18446744073709551615
  · subst e; decide
  · have hn := h.resolve_left e
    have hw := from_w64 h0 h1
    rcases key_cases hw with ⟨a1, a2⟩ | ⟨a1, a2, a3, a4, a5, a6, a7⟩ | ⟨a1, a2, a3, a4, a5, a6⟩
    · rw [hn] at a1; cases a1
    · rw [a6]
      unfold fromN at a4 a5 ⊢
      rw [if_neg e] at a4 a5 ⊢
      by_cases g : 9223372036854775808 ≤ k
      · rw [if_pos g] at a4 a5 ⊢; unfold isNaNB fromN at hn; rw [if_neg e, if_pos g] at hn; simp only [decide_eq_false_iff_not] at hn; omega
      · rw [if_neg g] at a4 a5 ⊢; omega
    · rw [a5]
      unfold fromN at a4 ⊢
      rw [if_neg e] at a4 ⊢
      by_cases g : 9223372036854775808 ≤ k
      · rw [if_pos g] at a4 ⊢; omega
      · rw [if_neg g] at a4 ⊢; omega
/-- A float's key is some float's. -/
theorem from_key {a : Nat} (ha : W64 a) : (keyI a = 18446744073709551615 ∨ isNaNB (fromN (keyI a)) = false) ∧ sameB (fromN (keyI a)) a = true := by
  obtain ⟨r0, r1⟩ := key_range ha
  have h : keyI a = 18446744073709551615 ∨ isNaNB (fromN (keyI a)) = false := by
    rcases key_cases ha with ⟨a1, a2⟩ | ⟨a1, a2, a3, a4, a5, a6, a7⟩ | ⟨a1, a2, a3, a4, a5, a6⟩
    · exact .inl a2
    · refine .inr ?_
      rw [a6]; unfold fromN
      rw [if_neg (by omega), if_neg (by omega)]
      unfold isNaNB; simp; omega
    · refine .inr ?_
      rw [a5]; unfold fromN
      rw [if_neg (by omega), if_pos (by omega)]
      unfold isNaNB; simp; omega
  refine ⟨h, ?_⟩
  unfold sameB
  rw [key_from r0 r1 h]; simp
set_option maxHeartbeats 4000000 in
theorem walk (a b : Nat) (k : Int) (wa : (Lit.float .f64 a).wf = true) (wb : (Lit.float .f64 b).wf = true) (wk : (Lit.int .u64 k).wf = true) (w : World) (hT : Tab w) (hT2 : Tab64 w) :
    Calls Tryd.prog 8 #[.float .f64 a, .float .f64 b, .int .u64 k] w fun e w' => e = .returned (.bool true) ∧ Below w.heap.size w w' := by
  have ha := w64_of wa
  have hb := w64_of wb
  have hk0 : 0 ≤ k ∧ k ≤ 18446744073709551615 := by simpa [Lit.wf, IntKind.min, IntKind.max, IntKind.signed, IntKind.bits] using wk
  obtain ⟨hk0, hk1⟩ := hk0
  obtain ⟨r0, r1⟩ := key_range ha
  have FK := Lib.hid (fun w => ffrom_any k w hk0 hk1)
  have FA := Lib.hid (fun w => ffrom_any (keyI a) w r0 r1)
  have KA := Lib.hid (fun w => fkey_any a w ha)
  have KB := Lib.hid (fun w => fkey_any b w hb)
  have RA := Lib.hid (fun w => rkey_any a w ha)
  have RX := Lib.hid (fun w => rkey_any (fromN k) w (from_w64 hk0 hk1))
  have L3 := Lib.hid (fun w => rless_any a b w ha hb)
  have Sz := Lib.hid (fun w => rsame_any 0 0 w (by decide) (by decide))
  have Sa := Lib.hid (fun w => rsame_any (fromN (keyI a)) a w (from_w64 r0 r1) ha)
  have sz : sameB 0 0 = true := by decide
  obtain ⟨ka, sa⟩ := from_key ha
  rw [sz] at Sz
  rw [sa] at Sa
  have HA : Hid (∀ w1, Drawn w w1 → Calls Tryd.prog 34 #[] w1 fun e w' => e = .returned (.bool true) ∧ Below w.heap.size w w') := Lib.hid (fun w1 h => (awake3_any w1 (hT.call h.below) (hT2.call h.below)).mono (fun e w' ⟨h1, h2⟩ => ⟨h1, h.below.trans (h2.mono h.below.size)⟩))
  have hlb : lessB a b = decide (keyI a < keyI b) := rfl
  rw [hlb] at L3
  have hfrom : (k ≠ 18446744073709551615 ∧ isNaNB (fromN k) = true) ∨ (k = 18446744073709551615 ∨ isNaNB (fromN k) = false) := by
    by_cases e : k = 18446744073709551615
    · exact .inr (.inl e)
    · cases h : isNaNB (fromN k) with
      | true => exact .inl ⟨e, rfl⟩
      | false => exact .inr (.inr rfl)
  have HKF := Lib.hid (fun h => key_from hk0 hk1 h)
  have HNK := Lib.hid (fun h1 h2 => none_key hk0 hk1 h1 h2)
  have FA2 : Hid (∀ w, Calls Tryd.prog 45 #[.int .u64 (keyI a)] w fun e w' => e = .returned (.tuple #[.float .f64 (fromN (keyI a)), .bool true]) ∧ w = w') := Lib.hid (fun w => (FA.out w).mono (by
    rintro e w' ⟨⟨g1, g2, g3⟩ | ⟨g1, g2⟩, hw⟩
    · rcases ka with q | q
      · exact absurd q g1
      · rw [q] at g2; cases g2
    · exact ⟨g2, hw⟩))
  clear wa wb wk ha hb hT hT2 sz sa hlb ka FA
  generalize hxa : fromN (keyI a) = xa at *
  generalize keyI a = p at *
  generalize keyI b = q at *
  clear hxa
  rcases hfrom with ⟨h1, h2⟩ | h
  · have hN := HNK.out h1 h2
    have FK2 : Hid (∀ w, Calls Tryd.prog 45 #[.int .u64 k] w fun e w' => e = .returned (.tuple #[.float .f64 0, .bool false]) ∧ w = w') := Lib.hid (fun w => (FK.out w).mono (by
      rintro e w' ⟨⟨g1, g2, g3⟩ | ⟨g1, g2⟩, hw⟩
      · exact ⟨g3, hw⟩
      · rcases g1 with g | g
        · exact absurd g h1
        · rw [h2] at g; cases g))
    have hk3 : (k != 18446744073709551615) = true := by simpa using h1
    clear FK HKF HNK h1 h2
    rcases hN with hN | hN
    all_goals
      go_enter Tryd.func8, Tryd.ntmps8
      go_wp2_with (first
        | ((with_reducible refine (FK2.out _).mono ?_); rintro e w' ⟨rfl, rfl⟩)
        | ((with_reducible refine (KA.out _).mono ?_); rintro e w' ⟨rfl, rfl⟩)
        | ((with_reducible refine (KB.out _).mono ?_); rintro e w' ⟨rfl, rfl⟩)
        | ((with_reducible refine (RA.out _).mono ?_); rintro e w' ⟨rfl, n, rfl⟩)
        | ((with_reducible refine (L3.out _).mono ?_); rintro e w' ⟨rfl, n, rfl⟩)
        | ((with_reducible refine (Sz.out _).mono ?_); rintro e w' ⟨rfl, n, rfl⟩)
        | ((with_reducible refine (HA.out _ (by repeat (first | exact Drawn.refl _ | apply Drawn.next))).mono ?_); rintro e w' ⟨rfl, hE⟩))
      go_ret
      exact ⟨rfl, hE⟩
  · have hkf := HKF.out h
    have FK2 : Hid (∀ w, Calls Tryd.prog 45 #[.int .u64 k] w fun e w' => e = .returned (.tuple #[.float .f64 (fromN k), .bool true]) ∧ w = w') := Lib.hid (fun w => (FK.out w).mono (by
      rintro e w' ⟨⟨g1, g2, g3⟩ | ⟨g1, g2⟩, hw⟩
      · rcases h with g | g
        · exact absurd g g1
        · rw [g2] at g; cases g
      · exact ⟨g2, hw⟩))
    rw [hkf] at RX
    generalize fromN k = x at *
    clear FK HKF HNK h hkf
    go_enter Tryd.func8, Tryd.ntmps8
    go_wp2_with (first
      | ((with_reducible refine (FK2.out _).mono ?_); rintro e w' ⟨rfl, rfl⟩)
      | ((with_reducible refine (FA2.out _).mono ?_); rintro e w' ⟨rfl, rfl⟩)
      | ((with_reducible refine (KA.out _).mono ?_); rintro e w' ⟨rfl, rfl⟩)
      | ((with_reducible refine (KB.out _).mono ?_); rintro e w' ⟨rfl, rfl⟩)
      | ((with_reducible refine (RA.out _).mono ?_); rintro e w' ⟨rfl, n, rfl⟩)
      | ((with_reducible refine (RX.out _).mono ?_); rintro e w' ⟨rfl, n, rfl⟩)
      | ((with_reducible refine (L3.out _).mono ?_); rintro e w' ⟨rfl, n, rfl⟩)
      | ((with_reducible refine (Sa.out _).mono ?_); rintro e w' ⟨rfl, n, rfl⟩)
      | ((with_reducible refine (HA.out _ (by repeat (first | exact Drawn.refl _ | apply Drawn.next))).mono ?_); rintro e w' ⟨rfl, hE⟩))
    go_ret
    exact ⟨rfl, hE⟩
set_option maxRecDepth 100000 in
theorem lifted (os : Os) (started : os.Started) (H : Type) (enc : TypeId × Value → H) :
    ReturnsInHanded {} Tryd.checked os 8 .any (fun w args => (Rows.floKeysSpec.pre enc Tryd.prog Tryd.f8 [] false w args ∧ laidMetH Tryd.prog laid3 w) ∧ sizedMet enc Tryd.prog Tryd.f8 (OpenSpec.ofChange Rows.floKeysSpec) false w args)
      (Rows.floKeysSpec.post enc Tryd.prog Tryd.f8 false true false false) := by
  refine returnsInHanded_of_change_and (C := Tryd.checked) (X := fun w _ => laidMetH Tryd.prog laid3 w) (fun _ _ _ hh h => h.of_heap hh) own2 started (by kernel_rfl) Tryd.func8
    (ChangeSpec.witness_shaped (enc := enc) (C := Tryd.checked) (os := os) (X := fun w _ => laidMetH Tryd.prog laid3 w) false (World.doorLaid Tryd.prog 800 os) #[.float .f64 0, .float .f64 0, .int .u64 0] 8 rfl (World.shaped_of_RefB (by kernel_rfl) (by kernel_rfl)) (by kernel_rfl) (by kernel_rfl) (by kernel_rfl) (door_met3 os _)) ?_
  intro W base args ds gs before hval0 hW _ _ hL _
  have hTab := tab_of3 hL
  have hTab64 := tab64_of3 hL
  have hval : ∀ (j : Nat) t v, Tryd.f8.params[j]? = some t → args[j]? = some v → Value.okWide Tryd.prog W .any base t v := hval0
  have hW' := hW
  obtain ⟨p, q, hA0, hV, rfl, hfz, hnd⟩ := hW
  have hA : DataW.TrodAll enc Tryd.prog W 0 (fun _ => true) true Tryd.f8.params.toList args.toList ds p := hA0
  rw [Tryd.params8] at hA hval
  obtain ⟨v0, vs0, d0, ds0, p0, q0, hargs, rfl, rfl, h0, r0⟩ := trodAll_cons hA
  obtain ⟨v1, vs1, d1, ds1, p1, q1, rfl, rfl, rfl, h1, r1⟩ := trodAll_cons r0
  obtain ⟨v2, vs2, d2, ds2, p2, q2, rfl, rfl, rfl, h2, r2⟩ := trodAll_cons r1
  obtain ⟨rfl, rfl, rfl⟩ := trodAll_nil r2
  obtain rfl : args = #[v0, v1, v2] := by cases args; simp_all
  obtain ⟨rfl, rfl⟩ := trodVars_none hV
  obtain ⟨a0, rfl, rfl, rfl, w0⟩ := open_float Tryd.underlying53 (hval 0 53 v0 rfl rfl) h0
  obtain ⟨a1, rfl, rfl, rfl, w1⟩ := open_float Tryd.underlying53 (hval 1 53 v1 rfl rfl) h1
  obtain ⟨a2, rfl, rfl, rfl, w2⟩ := open_int Tryd.underlying23 (hval 2 23 v2 rfl rfl) h2
  clear hA0 hval0
  simp only [List.append_nil] at hW'
  refine (walk a0 a1 a2 w0 w1 w2 W hTab hTab64).mono fun e W' ⟨he, bel⟩ => ?_
  subst he
  exact ⟨_, rfl, _, _, _, [], _, [], hW', trodAll_mk1 (shut_bool Tryd.underlying4 _), (trodAll_cons_mk (shut_float Tryd.underlying53 w0) (trodAll_cons_mk (shut_float Tryd.underlying53 w1) (trodAll_cons_mk (shut_int Tryd.underlying23 w2) trodAll_mk0))), rfl, bel.frame _, fun h => by cases h⟩

theorem over : Rows.floKeysRow.holds Tryd.pinned (OpenSpec.ofChange Rows.floKeysSpec) :=
  OpenClaim.holds_of_wide 8 Tryd.f8 rfl rfl rfl rfl rfl rfl rfl ⟨rfl, rfl, rfl, rfl, rfl⟩ rfl rfl rfl rfl rfl (by kernel_rfl) Tryd.func8 (by kernel_rfl)
    (of_decide_eq_true (by kernel_rfl)) (by unfold Func.isWrapper; first | (rw [if_pos (by decide +kernel)]; kernel_rfl) | (rw [if_neg (by decide +kernel)]; exact ⟨rfl, rfl⟩))
    (fun os started H enc _ => lifted os started H enc)
theorem row_holds : Rows.FloKeysSaid := over
end Go.Proofs.YtpfcacjcikhamaaDoor.floKeys
namespace Go.Proofs.YtpfcacjcikhamaaDoor
/-- The statement: the tied card. -/
theorem floKeys_holds : Rows.FloKeysCardSaid :=
  Claim7.holds_tied_plain_at .later [] [.data, .data] true _ false
    floKeys.row_holds (fun _ h => by cases h) (by kernel_rfl) (fun _ h => by cases h) floKeys_row_tie rfl ⟨rfl, rfl⟩ (by kernel_rfl) rfl
    (fun f fn hf hfn => by
      obtain rfl : f = 8 := Option.some.inj ((show Tryd.prog.funcNamed "bushel/bushellaw03.FloKeys" = some 8 by kernel_rfl).symm.trans hf) |>.symm
      obtain rfl : fn = Tryd.f8 := (Option.some.inj (Tryd.func8.symm.trans hfn)).symm
      exact ⟨by kernel_rfl, fun j t ht => by
        rw [Tryd.params8] at ht
        have hm : t ∈ [53, 53, 23] := by simpa using Array.mem_of_getElem? ht
        have hall : ([53, 53, 23].all fun u => !Tryd.prog.wantsStandIn u) = true := by kernel_rfl
        exact (show Tryd.prog.wantsStandIn t = false by simpa using List.all_eq_true.1 hall t hm)⟩)
    (by kernel_rfl)
#print axioms floKeys_holds
end Go.Proofs.YtpfcacjcikhamaaDoor
