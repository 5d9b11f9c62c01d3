/- The program's GetF and GetT. -/
import Derived.Test.YtdlebcjkokabjaaCodeh
import Derived.Laws.BytesArg
namespace Go.Proofs.Ytdlebcjkokabjaa
set_option maxRecDepth 100000
open Go.RowKit
set_option linter.unusedVariables false
def strB (l : List Int) : ByteArray := ⟨(l.map fun x => UInt8.ofNat x.toNat).toArray⟩
theorem conv_ints {w : World} {v : Value} {l : List Int} (h : Ints .u8 w v l) (hb : Bt l) : (convert 42 9 v).run Try.prog w = .ok (.string (strB l)) w := by
  obtain ⟨a, cap, rfl, -, h0 | ⟨b, off, rfl, hbl, hcell⟩⟩ := h
  · subst h0
    show (convert 42 9 (.slice a 0 cap)).run Try.prog w = _
    rw [run_convert_bytes_string w 42 9 5 _ 0 cap Try.underlying42 Try.underlying5 Try.underlying9]
    cases a <;> simp [Conv.bytesToString, loadCells]
    all_goals rfl
  have hlen : (l.map fun x => UInt8.ofNat x.toNat).length = l.length := by simp
  have := run_convert_bytes_back (P := Try.prog) w 42 9 5 ⟨b, off, none⟩ cap (l.map fun x => UInt8.ofNat x.toNat) Try.underlying42 Try.underlying5 Try.underlying9 (fun j hj => by
    have hj2 : j < l.length := by simpa using hj
    have hc := hcell j hj2
    have hm := hb _ (List.getElem_mem hj2)
    have e : l.getD j 0 = (((l.map fun x => UInt8.ofNat x.toNat)[j]).toNat : Int) := by
      rw [List.getElem_map, UInt8.toNat_ofNat_of_lt' (by show _ < 256; omega), List.getD, List.getElem?_eq_getElem hj2]
      show l[j] = _
      omega
    rw [e] at hc
    by_cases h0 : j = 0
    · subst h0; simpa [Addr.add] using hc
    · simpa [Addr.add, h0] using hc)
  rw [hlen] at this
  exact this
theorem key_ninf : keyI 18442240474082181120 = 4503599627370495 := by decide
theorem key_pinf : keyI 9218868437227405312 = 18442240474082181120 := by decide
theorem key_nan : keyI 9221120237041090561 = 18446744073709551615 := by decide
/-- The keys are those of floats. -/
theorem keyed_from {k : Int} (h : Keyed k) : W64 (fromN k) ∧ keyI (fromN k) = k ∧ (k = 18446744073709551615 ∨ isNaNB (fromN k) = false) ∧ 0 ≤ k ∧ k ≤ 18446744073709551615 := by
  unfold Keyed at h
  by_cases e : k = 18446744073709551615
  · subst e
    refine ⟨by unfold fromN; rw [if_pos rfl]; unfold W64; decide, by unfold fromN; rw [if_pos rfl]; decide, .inl rfl, by decide, by decide⟩
  · have h' : 4503599627370495 ≤ k ∧ k ≤ 18442240474082181120 := by omega
    obtain ⟨h0, h1⟩ := h'
    unfold fromN
    rw [if_neg e]
    by_cases g : 9223372036854775808 ≤ k
    · rw [if_pos g]
      have hx : (k - 9223372036854775808).toNat < 9223372036854775808 ∧ (k - 9223372036854775808).toNat ≤ 9218868437227405312 ∧ (((k - 9223372036854775808).toNat : Nat) : Int) = k - 9223372036854775808 := by omega
      generalize (k - 9223372036854775808).toNat = x at *
      have hn : isNaNB x = false := by unfold isNaNB; rw [decide_eq_false_iff_not]; omega
      have hg : negB x = false := by unfold negB; rw [decide_eq_false_iff_not]; omega
      refine ⟨by unfold W64; omega, ?_, .inr hn, by omega, by omega⟩
      unfold keyI; rw [hn, hg]; simp only [Bool.false_eq_true, if_false]; omega
    · rw [if_neg g]
      have hx : 9223372036854775808 ≤ (18446744073709551615 - k).toNat ∧ (18446744073709551615 - k).toNat ≤ 18442240474082181120 ∧ (((18446744073709551615 - k).toNat : Nat) : Int) = 18446744073709551615 - k := by omega
      generalize (18446744073709551615 - k).toNat = x at *
      have hn : isNaNB x = false := by unfold isNaNB; rw [decide_eq_false_iff_not]; omega
      have hg : negB x = true := by unfold negB; rw [decide_eq_true_iff]; omega
      refine ⟨by unfold W64; omega, ?_, .inr hn, by omega, by omega⟩
      unfold keyI; rw [hn, hg]; simp only [Bool.false_eq_true, if_false, if_true]; omega
theorem keyed_key {x : Nat} (hx : W64 x) : Keyed (keyI x) := by
  unfold W64 at hx
  unfold keyI Keyed
  split
  · left; rfl
  · rename_i hn
    have hn : isNaNB x = false := by simpa using hn
    unfold isNaNB at hn
    rw [decide_eq_false_iff_not] at hn
    split
    · rename_i hg
      unfold negB at hg
      rw [decide_eq_true_iff] at hg
      right; omega
    · rename_i hg
      unfold negB at hg
      rw [decide_eq_true_iff] at hg
      right; omega
theorem spans_two {w : World} {g : Nat} {a b c d : Int} (h : w.heap[g]? = some (.cells #[.int .u64 a, .int .u64 b, .int .u64 c, .int .u64 d] 132)) (hg : g < w.heap.size) : Spans w (.slice (some ⟨g, 0, none⟩) 2 2) [(a, b), (c, d)] := by
  refine ⟨_, rfl, hg, fun i hi => ?_⟩
  have : i = 0 ∨ i = 1 := by simp at hi; omega
  rcases this with rfl | rfl
  · exact ⟨by rw [cell_of_row w g 0 _ _ _ h]; rfl, by rw [cell_of_row w g 1 _ _ _ h]; rfl⟩
  · exact ⟨by rw [cell_of_row w g 2 _ _ _ h]; rfl, by rw [cell_of_row w g 3 _ _ _ h]; rfl⟩
/-- What GetF returns. -/
def tripF (r : Int × Nat) : Value := if r.2 = 0 then .tuple #[.float .f64 (fromN r.1), .int .i64 8, .int .i64 0] else .tuple #[.float .f64 0, .int .i64 0, .int .i64 (r.2 : Nat)]
theorem getF_keyed {b : List Int} (h : (getF b).2 = 0) : Keyed (getF b).1 := by
  unfold getF at h ⊢
  split at h
  · rename_i hl
    rw [if_pos hl]
    split at h
    · rename_i hk; rw [if_pos hk]; exact hk
    · cases h
  · split at h <;> cases h
theorem drop_one {b : List Int} {k : Nat} (h : k < b.length) : b.drop k = b.getD k 0 :: b.drop (k + 1) := by
  rw [List.drop_eq_getElem_cons h, List.getD, List.getElem?_eq_getElem h]; rfl
theorem getT_past (b : List Int) (k : Nat) (acc : List Int) (i : Nat) (h : ¬ k + 1 < b.length) : getT (b.drop k) acc i = ([], 0, 5) := by
  by_cases hk : k < b.length
  · rw [drop_one hk, List.drop_of_length_le (by omega)]; exact getT_one _ _ _
  · rw [List.drop_of_length_le (by omega)]; exact getT_nil _ _
def tripT (r : List Int × Nat × Nat) : Value := .tuple #[.string (strB r.1), .int .i64 (r.2.1 : Nat), .int .i64 (r.2.2 : Nat)]
set_option maxHeartbeats 8000000 in
theorem pgetT_any (v : Value) (b : List Int) (w : World) (hv : Ints .u8 w v b) (hb : Bt b) (hl : b.length ≤ 100000) :
    Calls Try.prog 86 #[v] w fun e w' => e = .returned (tripT (getT b [] 0)) ∧ Below w.heap.size w w' := by
  obtain ⟨i0, hi, hz0, hz1, hz2⟩ := info_parts Try.infoU8
  have HV := Lib.hid hv
  obtain ⟨a, cap, rfl, hcap, -⟩ := hv
  have HBt := Lib.hid hb
  have i5 : IntKind.i64.wrap ((b.length : Int) - 1) = (b.length : Int) - 1 := IntWalk.i64_in _ (by omega)
  go_enter Try.func86, Try.ntmps86
  go_wp2_with fail
  go_loopw [5, 6] (fun ov iv wr => ∃ (k : Nat) (acc : List Int), k ≤ b.length ∧ iv = .int .i64 k ∧ Hid (BOwn wr w.heap.size ov acc ∧ Below w.heap.size w wr ∧ acc.length ≤ k ∧ Bt acc ∧ getT (b.drop k) acc k = getT b [] 0)) (fun _ iv _ => b.length - (intOf iv).toNat)
  case atStart => exact ⟨0, [], Nat.zero_le _, rfl, Lib.hid ⟨own0 _ _, Below.refl _ _, Nat.le_refl _, bt_nil, rfl⟩⟩
  case round =>
    obtain ⟨k, acc, hk, rfl, hS⟩ := hrel
    obtain ⟨pa, pl, pc, rfl⟩ := own_slice3 hS.out.1
    have HLe := Lib.hid (show acc.length ≤ 100000 by have := hS.out.2.2.1; omega)
    by_cases hlt : k + 1 < b.length
    · have i1 : (k : Int) < (b.length : Int) - 1 := by omega
      have hE := hS.out.2.2.2.2
      rw [drop_one (k := k) (by omega), drop_one (k := k + 1) (by omega)] at hE
      obtain ⟨bb, off, rfl, hbl, hc0⟩ := (HV.out.below hS.out.2.1).cell (i := k) (by omega)
      obtain ⟨bb', off', e', -, hc1⟩ := (HV.out.below hS.out.2.1).cell (i := k + 1) hlt
      cases e'
      have hr0 := HBt.out.getD (d := 0) (by decide) (by decide) k
      have hd1 := Lib.hid (drop_one (b := b) (k := k + 1) (by omega))
      generalize hc : b.getD k 0 = c at *
      generalize hd : b.getD (k + 1) 0 = d at *
      have i2 : (k : Int) < (b.length : Int) := by omega
      have i3 : (k : Int) + 1 < (b.length : Int) := by omega
      have i6 : IntKind.i64.wrap ((k : Int) + 1) = (k : Int) + 1 := IntWalk.i64_in _ (by omega)
      clear hc hd
      by_cases h0 : c = 0
      · subst h0
        by_cases d0 : d = 0
        · subst d0
          rw [getT_stop] at hE
          have HE := Lib.hid hE
          have hcv := conv_ints (Ints.own hS.out.1) hS.out.2.2.2.1
          have HB := Lib.hid hS.out.2.1
          clear hE
          generalize hst : strB acc = S at *
          replace hst := Lib.hid hst
          go_wp2_with (simp only [hcv])
          exact bodyPost_ret (v := .tuple #[.string S, .int .i64 ((k + 2 : Nat) : Int), .int .i64 0]) (by simp [results, Try.results86, go_sem]) rfl ⟨by rw [← HE.out]; unfold tripT; rw [hst.out]; rfl, HB.out⟩
        · by_cases d1 : d = 1
          · subst d1
            rw [getT_zero] at hE
            have HE := Lib.hid hE
            clear hE
            go_wp2_with (at_builtin; refine wpList_append_want _ (by rfl) _ _ 42 rfl w.heap.size 5 i0 (.int .u8 0) 1 Try.underlying42 hi hz0 hz1 hz2 rfl .u8 _ _ acc [0] rfl rfl (hS.out.1.alloc _) (ints_new rfl) (by have := HLe.out; unfold maxLen; simp; omega) (by have := HLe.out; simp; omega) (by have := hS.out.2.1.size; simp; omega) ?_; intro v' w1 hown hgrow; have HQ := Lib.hid (And.intro hown (own_grown hS.out.2.1.size hS.out.2.1 hS.out.1 hgrow)); obtain ⟨pv, lv, cv, rfl⟩ := own_slice3 hown; clear hown hgrow)
            go_roundw
            case rel => exact ⟨k + 2, acc ++ [0], by omega, by go_num, Lib.hid ⟨HQ.out.1, HQ.out.2, by simp; have := hS.out.2.2.1; omega, hS.out.2.2.2.1.append (Bt.cons (by decide) (by decide) bt_nil), HE.out⟩⟩
            case measure => simp [intOf]; omega
          · rw [getT_bad d0 d1] at hE
            have HE := Lib.hid hE
            have HB := Lib.hid hS.out.2.1
            have e0 : (d == 0) = false := by simpa using d0
            have e1 : (d == 1) = false := by simpa using d1
            clear hE
            go_wp2_with fail
            exact bodyPost_ret (v := .tuple #[.string ByteArray.empty, .int .i64 0, .int .i64 6]) (by simp [results, Try.results86, go_sem]; rfl) rfl ⟨by rw [← HE.out]; rfl, HB.out⟩
      · have e0 : (c == 0) = false := by simpa using h0
        rw [getT_char h0, ← hd1.out] at hE
        have HE := Lib.hid hE
        clear hE
        go_wp2_with (at_builtin; refine wpList_append_want _ (by rfl) _ _ 42 rfl w.heap.size 5 i0 (.int .u8 0) 1 Try.underlying42 hi hz0 hz1 hz2 rfl .u8 _ _ acc [c] rfl rfl (hS.out.1.alloc _) (ints_new rfl) (by have := HLe.out; unfold maxLen; simp; omega) (by have := HLe.out; simp; omega) (by have := hS.out.2.1.size; simp; omega) ?_; intro v' w1 hown hgrow; have HQ := Lib.hid (And.intro hown (own_grown hS.out.2.1.size hS.out.2.1 hS.out.1 hgrow)); obtain ⟨pv, lv, cv, rfl⟩ := own_slice3 hown; clear hown hgrow)
        go_roundw
        case rel => exact ⟨k + 1, acc ++ [c], by omega, by go_num, Lib.hid ⟨HQ.out.1, HQ.out.2, by simp; have := hS.out.2.2.1; omega, hS.out.2.2.2.1.append (Bt.cons hr0.1 hr0.2 bt_nil), HE.out⟩⟩
        case measure => simp [intOf]; omega
    · have i1 : ¬ (k : Int) < (b.length : Int) - 1 := by omega
      have HE := Lib.hid (hS.out.2.2.2.2.symm.trans (getT_past b k acc k hlt))
      have HB := Lib.hid hS.out.2.1
      go_wp2_with fail
      exact bodyPost_ret (v := .tuple #[.string ByteArray.empty, .int .i64 0, .int .i64 5]) (by simp [results, Try.results86, go_sem]; rfl) rfl ⟨by rw [HE.out]; rfl, HB.out⟩
end Go.Proofs.Ytdlebcjkokabjaa
