/- The reference's encoders. -/
import Derived.Test.YtdlebcjkokabjaaCodec
namespace Go.Proofs.Ytdlebcjkokabjaa
set_option maxRecDepth 100000
open Go.RowKit
set_option linter.unusedVariables false
theorem lit_below {w wr w1 : World} {o : Obj} (hb : Below w.heap.size w wr) (hg : (wr.alloc o).grownBy w1 (some wr.heap.size)) : Below w.heap.size w w1 :=
  (hb.alloc hb.size o).grown hg (by have := hb.size; simp; omega) (fun k hk => by have e : wr.heap.size = k := Option.some.inj hk; have := hb.size; omega)
theorem bytesN_ge {x k : Nat} (hx : x < 18446744073709551616) (h : k < bytesN x) : 0 < x / 256 ^ k := by
  have := bytesN_is x hx
  rcases this.2 with h0 | h0
  · omega
  · have h1 : 256 ^ k ≤ 256 ^ (bytesN x - 1) := Nat.pow_le_pow_right (by decide) (by omega)
    exact Nat.div_pos (by omega) (p256_pos k)
theorem bytesN_done {x k : Nat} (hx : x < 18446744073709551616) (h : bytesN x ≤ k) : x / 256 ^ k = 0 := by
  have := (bytesN_is x hx).1
  have h1 : 256 ^ bytesN x ≤ 256 ^ k := Nat.pow_le_pow_right (by decide) h
  exact Nat.div_eq_of_lt (by omega)
theorem bigN_succ (x k : Nat) : bigN x (k + 1) = [((x / 256 ^ k % 256 : Nat) : Int)] ++ bigN x k := rfl
def slLen : Value → Nat
  | .slice _ n _ => n
  | _ => 0
set_option maxHeartbeats 4000000 in
theorem high_any (x least : Nat) (w : World) (hx : x < 18446744073709551616) (hl : least ≤ 8) : Calls Try.prog 77 #[.int .u64 x, .int .i64 least] w (BytesP w (bigN x (max least (bytesN x)))) := by
  obtain ⟨i0, hi, hz0, hz1, hz2⟩ := info_parts Try.infoU8
  have hn := bytesN_le x hx
  have HG := Lib.hid (fun k => bytesN_ge (k := k) hx)
  have HD := Lib.hid (fun k => bytesN_done (k := k) hx)
  have HL := Lib.hid (bigN_len x)
  have HX := Lib.hid (show ((x : Nat) : Int) = ((x / 256 ^ 0 : Nat) : Int) by simp)
  have HS := Lib.hid (bigN_succ x)
  have HN := Lib.hid (show ∀ k, x / 256 ^ (k + 1) = x / 256 ^ k / 256 from fun k => by rw [Nat.pow_succ, Nat.div_div_eq_div_mul])
  generalize bytesN x = n at *
  have HM := Lib.hid (show max least n ≤ 8 by omega)
  go_enter Try.func77, Try.ntmps77
  go_wp2_with fail
  go_loopw [0, 5] (fun xv ov wr => ∃ k : Nat, k ≤ max least n ∧ xv = .int .u64 ((x / 256 ^ k : Nat) : Int) ∧ Hid (BOwn wr w.heap.size ov (bigN x k) ∧ Below w.heap.size w wr) ∧ slLen ov = k) (fun _ ov _ => max least n - slLen ov)
  case atStart => exact ⟨0, Nat.zero_le _, by rw [HX.out], Lib.hid ⟨own0 _ _, Below.refl _ _⟩, rfl⟩
  case round =>
    obtain ⟨k, hk, rfl, hS, hlen⟩ := hrel
    obtain ⟨pa, pc, rfl⟩ := own_slice hS.out.1
    simp only [HL.out] at hS hlen ⊢
    have hle : (bigN x k).length ≤ 8 := by rw [HL.out]; have := HM.out; omega
    have HLE := Lib.hid hle
    have HD0 := HD.out k
    have HG0 := HG.out k
    have HN0 := Lib.hid (HN.out k)
    have HS0 := Lib.hid (HS.out k)
    have hyx : x / 256 ^ k ≤ x := Nat.div_le_self _ _
    generalize x / 256 ^ k = y at *
    have hw : IntKind.u64.wrap ((y : Int) / 256) = (y : Int) / 256 := by rw [IntKind.wrap_u64]; omega
    have hc : ((y : Int) % 256) = ((y % 256 : Nat) : Int) := by omega
    have hu : IntKind.u8.wrap ((y : Int) % 256) = (y : Int) % 256 := by rw [IntKind.wrap_u8]; omega
    have Hc := Lib.hid hc
    clear hc hle
    by_cases hlt : k < max least n
    · by_cases hy : y = 0
      · have i1 : ¬ (0 : Int) < (y : Int) := by omega
        have i2 : (k : Int) < (least : Int) := by
          have : ¬ k < n := fun h => by have := HG0 h; omega
          omega
        subst hy
        go_wp2_with (at_builtin; refine wpList_append_want _ (by rfl) _ _ 42 rfl w.heap.size 5 i0 (.int .u8 0) 1 Try.underlying42 hi hz0 hz1 hz2 rfl .u8 _ _ [0] (bigN x k) rfl rfl (World.ownsRow_lit wr #[.int .u8 (0)] 1 hS.out.2.size (by unfold maxLen; omega) rfl) ((Ints.own hS.out.1).below (below_one wr _)) (by have := HLE.out; unfold maxLen; simp; omega) (by have := HLE.out; simp; omega) (by have := hS.out.2.size; simp; omega) ?_; intro v' w1 hown hgrow; have HQ := Lib.hid (And.intro hown (lit_below hS.out.2 hgrow)); obtain ⟨pv', lv', cv', rfl⟩ := own_slice3 hown; clear hown hgrow)
        go_roundw
        case rel => exact ⟨k + 1, by omega, by rw [HN0.out]; rfl, Lib.hid ⟨by rw [HS0.out]; exact HQ.out.1, HQ.out.2⟩, by have := own_slice HQ.out.1; obtain ⟨_, _, e⟩ := this; cases e; simp [slLen, HL.out]⟩
        case measure => obtain ⟨_, _, e⟩ := own_slice HQ.out.1; cases e; simp [slLen, HL.out]; omega
      · have i1 : (0 : Int) < (y : Int) := by omega
        go_wp2_with ((at_builtin; refine wpList_append_want _ (by rfl) _ _ 42 rfl w.heap.size 5 i0 (.int .u8 0) 1 Try.underlying42 hi hz0 hz1 hz2 rfl .u8 _ _ [(y : Int) % 256] (bigN x k) rfl rfl (World.ownsRow_lit wr #[.int .u8 ((y : Int) % 256)] 1 hS.out.2.size (by unfold maxLen; omega) rfl) ((Ints.own hS.out.1).below (below_one wr _)) (by have := HLE.out; unfold maxLen; simp; omega) (by have := HLE.out; simp; omega) (by have := hS.out.2.size; simp; omega) ?_; intro v' w1 hown hgrow; have HQ := Lib.hid (And.intro hown (lit_below hS.out.2 hgrow)); obtain ⟨pv', lv', cv', rfl⟩ := own_slice3 hown; clear hown hgrow))
        go_roundw
        case rel => exact ⟨k + 1, by omega, by rw [HN0.out]; push_cast; rfl, Lib.hid ⟨by rw [HS0.out, ← Hc.out]; exact HQ.out.1, HQ.out.2⟩, by have := own_slice HQ.out.1; obtain ⟨_, _, e⟩ := this; cases e; simp [slLen, HL.out]⟩
        case measure => obtain ⟨_, _, e⟩ := own_slice HQ.out.1; cases e; simp [slLen, HL.out]; omega
    · obtain rfl : k = max least n := by omega
      have hy : y = 0 := HD0 (by omega)
      subst hy
      have i2 : ¬ ((max least n : Nat) : Int) < (least : Int) := by omega
      go_wp2_with fail
      go_ret
      exact ⟨⟨_, rfl, hS.out.1⟩, hS.out.2⟩
set_option maxHeartbeats 2000000 in
theorem rU_any (x : Nat) (w : World) (hx : x < 18446744073709551616) : Calls Try.prog 49 #[.int .u64 x] w (BytesP w (encU x)) := by
  obtain ⟨i0, hi, hz0, hz1, hz2⟩ := info_parts Try.infoU8
  have hn := bytesN_le x hx
  have HN := Lib.hid (high_any x 0 w hx (by decide))
  rw [Nat.zero_max] at HN
  have hR := Lib.hid (show encU x = [(bytesN x : Int)] ++ bigN x (bytesN x) from rfl)
  have hL := (bigN_len x (bytesN x)).symm
  generalize bigN x (bytesN x) = l at *
  generalize bytesN x = n at *
  subst hL
  have hu : IntKind.u8.wrap (l.length : Int) = l.length := by rw [IntKind.wrap_u8]; omega
  go_enter Try.func49, Try.ntmps49
  go_wp2_with fail
  refine (HN.out).mono ?_; rintro e wr ⟨⟨v, rfl, ho⟩, hb⟩
  obtain ⟨pa, pc, rfl⟩ := own_slice ho
  have hS := Lib.hid (And.intro ho hb)
  have HLE := Lib.hid hn
  clear ho hb HN
  go_wp2_with (at_builtin; refine wpList_append_want _ (by rfl) _ _ 42 rfl w.heap.size 5 i0 (.int .u8 0) 1 Try.underlying42 hi hz0 hz1 hz2 rfl .u8 _ _ [(l.length : Int)] l rfl rfl (World.ownsRow_lit wr #[.int .u8 ((l.length : Int))] 1 hS.out.2.size (by unfold maxLen; omega) rfl) ((Ints.own hS.out.1).below (below_one wr _)) (by have := HLE.out; unfold maxLen; simp; omega) (by have := HLE.out; simp; omega) (by have := hS.out.2.size; simp; omega) ?_; intro v' w1 hown hgrow; have HQ := Lib.hid (And.intro hown (lit_below hS.out.2 hgrow)); obtain ⟨pv', lv', cv', rfl⟩ := own_slice3 hown; clear hown hgrow)
  go_ret
  exact ⟨⟨_, rfl, by rw [hR.out]; exact HQ.out.1⟩, HQ.out.2⟩
set_option maxHeartbeats 4000000 in
theorem rT_any (s : ByteArray) (w : World) (hs : s.size ≤ 1000) : Calls Try.prog 50 #[.string s] w (BytesP w (encT (ofS s))) := by
  obtain ⟨i0, hi, hz0, hz1, hz2⟩ := info_parts Try.infoU8
  have HT := Lib.hid (ofS_take s)
  have HL := Lib.hid (ofS_len s)
  have HP := Lib.hid (fun k => encP_len ((ofS s).take k))
  have HE := Lib.hid (show encT (ofS s) = encP (ofS s) ++ [0, 0] from rfl)
  generalize encT (ofS s) = R at *
  generalize ofS s = l at *
  go_enter Try.func50, Try.ntmps50
  go_wp2_with fail
  go_loopw [3, 4] (fun bv i wr => ∃ k : Nat, k ≤ s.size ∧ i = .int .i64 k ∧ Hid (BOwn wr w.heap.size bv (encP (l.take k)) ∧ Below w.heap.size w wr ∧ (encP (l.take k)).length ≤ 2000)) (fun _ i _ => s.size - (intOf i).toNat)
  case atStart => exact ⟨0, Nat.zero_le _, rfl, Lib.hid ⟨own0 _ _, Below.refl _ _, by simp [encP]⟩⟩
  case round =>
    obtain ⟨k, hk, rfl, hS⟩ := hrel
    obtain ⟨pa, pl, pc, rfl⟩ := own_slice3 hS.out.1
    by_cases hlt : k < s.size
    · have i1 : (k : Int) < (s.size : Int) := by omega
      have HT1 := Lib.hid (HT.out k hlt)
      have HP1 := HP.out (k + 1)
      rw [List.length_take] at HP1
      have HP1 := Lib.hid (show (encP (l.take (k + 1))).length ≤ 2000 by omega)
      have hcl : s[k].toNat < 256 := UInt8.toNat_lt _
      by_cases hz : s[k].toNat = 0
      · have hz' : (s[k].toNat : Int) = 0 := by omega
        go_wp2_with (first
          | (at_builtin; refine wpList_append_want _ (by rfl) _ _ 42 rfl w.heap.size 5 i0 (.int .u8 0) 1 Try.underlying42 hi hz0 hz1 hz2 rfl .u8 _ _ (encP (l.take k)) [0] rfl rfl (hS.out.1.alloc _) (ints_new rfl) (by have := hS.out.2.2; unfold maxLen; simp; omega) (by have := hS.out.2.2; simp; omega) (by have := hS.out.2.1.size; simp; omega) ?_; intro v' w1 hown hgrow; have HQ := Lib.hid (And.intro hown (own_grown hS.out.2.1.size hS.out.2.1 hS.out.1 hgrow)); obtain ⟨pv', lv', cv', rfl⟩ := own_slice3 hown; clear hown hgrow)
          | (at_builtin; refine wpList_append_want _ (by rfl) _ _ 42 rfl w.heap.size 5 i0 (.int .u8 0) 1 Try.underlying42 hi hz0 hz1 hz2 rfl .u8 _ _ (encP (l.take k) ++ [0]) [1] rfl rfl (HQ.out.1.alloc _) (ints_new rfl) (by have := hS.out.2.2; unfold maxLen; simp; omega) (by have := hS.out.2.2; simp; omega) (by have := HQ.out.2.size; simp; omega) ?_; intro v2 w2 hown hgrow; have HR := Lib.hid (And.intro hown (own_grown HQ.out.2.size HQ.out.2 HQ.out.1 hgrow)); obtain ⟨pv2, lv2, cv2, rfl⟩ := own_slice3 hown; clear hown hgrow))
        go_roundw
        case rel => exact ⟨k + 1, by omega, by go_num, Lib.hid ⟨by rw [HT1.out, encP_more, encP_one, pieT, if_pos hz', List.append_cons]; exact HR.out.1, HR.out.2, HP1.out⟩⟩
        case measure => simp [intOf]; omega
      · have hz' : ((s[k].toNat : Int) == 0) = false := by simp; omega
        go_wp2_with (at_builtin; refine wpList_append_want _ (by rfl) _ _ 42 rfl w.heap.size 5 i0 (.int .u8 0) 1 Try.underlying42 hi hz0 hz1 hz2 rfl .u8 _ _ (encP (l.take k)) [(s[k].toNat : Int)] rfl rfl (hS.out.1.alloc _) (ints_new rfl) (by have := hS.out.2.2; unfold maxLen; simp; omega) (by have := hS.out.2.2; simp; omega) (by have := hS.out.2.1.size; simp; omega) ?_; intro v' w1 hown hgrow; have HQ := Lib.hid (And.intro hown (own_grown hS.out.2.1.size hS.out.2.1 hS.out.1 hgrow)); obtain ⟨pv', lv', cv', rfl⟩ := own_slice3 hown; clear hown hgrow)
        go_roundw
        case rel => exact ⟨k + 1, by omega, by go_num, Lib.hid ⟨by rw [HT1.out, encP_more, encP_one, pieT, if_neg (by omega)]; exact HQ.out.1, HQ.out.2, HP1.out⟩⟩
        case measure => simp [intOf]; omega
    · obtain rfl : k = s.size := by omega
      have i1 : ¬ ((s.size : Nat) : Int) < (s.size : Nat) := by omega
      have HE2 := Lib.hid (show R = encP (l.take s.size) ++ [0, 0] by rw [HE.out, List.take_of_length_le (by rw [HL.out]; exact Nat.le_refl _)])
      go_wp2_with (at_builtin; refine wpList_append_want _ (by rfl) _ _ 42 rfl w.heap.size 5 i0 (.int .u8 0) 1 Try.underlying42 hi hz0 hz1 hz2 rfl .u8 _ _ (encP (l.take s.size)) [0, 0] rfl rfl (hS.out.1.alloc _) (ints_new rfl) (by have := hS.out.2.2; unfold maxLen; simp; omega) (by have := hS.out.2.2; simp; omega) (by have := hS.out.2.1.size; simp; omega) ?_; intro v' w1 hown hgrow; have HQ := Lib.hid (And.intro hown (own_grown hS.out.2.1.size hS.out.2.1 hS.out.1 hgrow)); obtain ⟨pv', lv', cv', rfl⟩ := own_slice3 hown; clear hown hgrow)
      go_ret
      exact ⟨⟨_, rfl, by rw [HE2.out]; exact HQ.out.1⟩, HQ.out.2⟩
end Go.Proofs.Ytdlebcjkokabjaa
