/- The encoding of a string; the reference's encoders. -/
import Derived.Test.YtdlebcjkokabjaaCodeb
import Derived.Test.YtdlebcjkokabjaaFloi
namespace Go.Proofs.Ytdlebcjkokabjaa
set_option maxRecDepth 100000
open Go.RowKit
set_option linter.unusedVariables false
theorem encP_one (c : Int) : encP [c] = pieT c := by simp [encP]
theorem ints_new {k : IntKind} {w : World} {E : TypeId} {zs : List Int} {n : Nat} {fr : Nat × Nat} (hn : zs.length = n) : Ints k (w.alloc (.cells (zs.map (Value.int k)).toArray E fr)) (.slice (some ⟨w.heap.size, 0, none⟩) n n) zs := by
  subst hn
  refine ⟨_, _, rfl, Nat.le_refl _, .inr ⟨w.heap.size, 0, rfl, by simp, fun i hi => ?_⟩⟩
  rw [Nat.zero_add, cell_of_row _ _ i _ E fr (heap_alloc_new w _)]
  rw [List.getElem?_toArray, List.getElem?_map]
  simp [List.getD, hi]
theorem cap_max {n : Int} (h0 : 0 ≤ n) (h1 : n ≤ 1000) : n ≤ maxLen := by unfold maxLen; omega
set_option maxHeartbeats 4000000 in
theorem pT_any (s : ByteArray) (w : World) (hs : s.size ≤ 1000) : Calls Try.prog 63 #[.string s] w (BytesP w (encT (ofS s))) := by
  obtain ⟨i0, hi, hz0, hz1, hz2⟩ := info_parts Try.infoU8
  have i2 : IntKind.i64.wrap ((s.size : Int) + 2) = (s.size : Int) + 2 := IntWalk.i64_in _ (by omega)
  have HT := Lib.hid (ofS_take s)
  have HL := Lib.hid (ofS_len s)
  have HP := Lib.hid (fun k => encP_len ((ofS s).take k))
  have HE := Lib.hid (show encT (ofS s) = encP (ofS s) ++ [0, 0] from rfl)
  generalize encT (ofS s) = R at *
  generalize ofS s = l at *
  obtain ⟨w0, hr, hO, hg⟩ := run_make_own (P := Try.prog) (w := w) w.heap.size 42 5 i0 (.int .u8 0) 1 Try.underlying42 hi hz0 hz1 .i64 .i64 (s.size + 2) (by rw [hz2]; omega) (by unfold maxLen; omega) (Nat.le_refl _)
  simp only [Int.natCast_add, Int.cast_ofNat_Int] at hr
  have HO := Lib.hid (show BOwn w0 w.heap.size (.slice (some ⟨w.heap.size, 0, none⟩) 0 (s.size + 2)) [] from hO)
  have HB := Lib.hid (show Below w.heap.size w w0 from (Below.refl _ _).grown hg (Nat.le_refl _) (fun k hk => by cases hk))
  clear hO hg
  go_enter Try.func63, Try.ntmps63
  go_wp2_with (simp only [hr])
  clear hr
  go_loopw [3, 11] (fun bv i wr => ∃ k : Nat, k ≤ s.size ∧ i = .int .i64 k ∧ Hid (BOwn wr w.heap.size bv (encP (l.take k)) ∧ Below w.heap.size w wr ∧ (encP (l.take k)).length ≤ 2000)) (fun _ i _ => s.size - (intOf i).toNat)
  case atStart => exact ⟨0, Nat.zero_le _, rfl, Lib.hid ⟨HO.out, HB.out, by simp [encP]⟩⟩
  case round =>
    obtain ⟨k, hk, rfl, hS⟩ := hrel
    clear HO HB
    obtain ⟨pa, pl, pc, rfl⟩ := own_slice3 hS.out.1
    by_cases hlt : k < s.size
    · have i1 : (k : Int) < (s.size : Int) := by omega
      have HT1 := Lib.hid (HT.out k hlt)
      have HP1 := HP.out (k + 1)
      rw [List.length_take] at HP1
      have HP1 := Lib.hid (show (encP (l.take (k + 1))).length ≤ 2000 by omega)
      have hcl : s[k].toNat < 256 := UInt8.toNat_lt _
      by_cases hz : s[k].toNat = 0
      · have hz' : (s[k].toNat : Int) = 0 := by omega
        go_wp2_with (first
          | (at_builtin; refine wpList_append_want _ (by rfl) _ _ 42 rfl w.heap.size 5 i0 (.int .u8 0) 1 Try.underlying42 hi hz0 hz1 hz2 rfl .u8 _ _ (encP (l.take k)) [0] rfl rfl (hS.out.1.alloc _) (ints_new rfl) (by have := hS.out.2.2; unfold maxLen; simp; omega) (by have := hS.out.2.2; simp; omega) (by have := hS.out.2.1.size; simp; omega) ?_; intro v' w1 hown hgrow; have HQ := Lib.hid (And.intro hown (own_grown hS.out.2.1.size hS.out.2.1 hS.out.1 hgrow)); obtain ⟨pv', lv', cv', rfl⟩ := own_slice3 hown; clear hown hgrow)
          | (at_builtin; refine wpList_append_want _ (by rfl) _ _ 42 rfl w.heap.size 5 i0 (.int .u8 0) 1 Try.underlying42 hi hz0 hz1 hz2 rfl .u8 _ _ (encP (l.take k) ++ [0]) [1] rfl rfl (HQ.out.1.alloc _) (ints_new rfl) (by have := hS.out.2.2; unfold maxLen; simp; omega) (by have := hS.out.2.2; simp; omega) (by have := HQ.out.2.size; simp; omega) ?_; intro v2 w2 hown hgrow; have HR := Lib.hid (And.intro hown (own_grown HQ.out.2.size HQ.out.2 HQ.out.1 hgrow)); obtain ⟨pv2, lv2, cv2, rfl⟩ := own_slice3 hown; clear hown hgrow))
        go_roundw
        case rel => exact ⟨k + 1, by omega, by go_num, Lib.hid ⟨by rw [HT1.out, encP_more, encP_one, pieT, if_pos hz', List.append_cons]; exact HR.out.1, HR.out.2, HP1.out⟩⟩
        case measure => simp [intOf]; omega
      · have hz' : ((s[k].toNat : Int) == 0) = false := by simp; omega
        go_wp2_with (at_builtin; refine wpList_append_want _ (by rfl) _ _ 42 rfl w.heap.size 5 i0 (.int .u8 0) 1 Try.underlying42 hi hz0 hz1 hz2 rfl .u8 _ _ (encP (l.take k)) [(s[k].toNat : Int)] rfl rfl (hS.out.1.alloc _) (ints_new rfl) (by have := hS.out.2.2; unfold maxLen; simp; omega) (by have := hS.out.2.2; simp; omega) (by have := hS.out.2.1.size; simp; omega) ?_; intro v' w1 hown hgrow; have HQ := Lib.hid (And.intro hown (own_grown hS.out.2.1.size hS.out.2.1 hS.out.1 hgrow)); obtain ⟨pv', lv', cv', rfl⟩ := own_slice3 hown; clear hown hgrow)
        go_roundw
        case rel => exact ⟨k + 1, by omega, by go_num, Lib.hid ⟨by rw [HT1.out, encP_more, encP_one, pieT, if_neg (by omega)]; exact HQ.out.1, HQ.out.2, HP1.out⟩⟩
        case measure => simp [intOf]; omega
    · obtain rfl : k = s.size := by omega
      have i1 : ¬ ((s.size : Nat) : Int) < (s.size : Nat) := by omega
      have HE2 := Lib.hid (show R = encP (l.take s.size) ++ [0, 0] by rw [HE.out, List.take_of_length_le (by rw [HL.out]; exact Nat.le_refl _)])
      go_wp2_with (at_builtin; refine wpList_append_want _ (by rfl) _ _ 42 rfl w.heap.size 5 i0 (.int .u8 0) 1 Try.underlying42 hi hz0 hz1 hz2 rfl .u8 _ _ (encP (l.take s.size)) [0, 0] rfl rfl (hS.out.1.alloc _) (ints_new rfl) (by have := hS.out.2.2; unfold maxLen; simp; omega) (by have := hS.out.2.2; simp; omega) (by have := hS.out.2.1.size; simp; omega) ?_; intro v' w1 hown hgrow; have HQ := Lib.hid (And.intro hown (own_grown hS.out.2.1.size hS.out.2.1 hS.out.1 hgrow)); obtain ⟨pv', lv', cv', rfl⟩ := own_slice3 hown; clear hown hgrow)
      go_ret
      exact ⟨⟨_, rfl, by rw [HE2.out]; exact HQ.out.1⟩, HQ.out.2⟩
end Go.Proofs.Ytdlebcjkokabjaa
