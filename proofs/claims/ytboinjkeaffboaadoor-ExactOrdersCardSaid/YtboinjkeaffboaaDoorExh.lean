/- Package exact: Mean; sums that nobody made; the chapter's examples. -/
import Derived.Test.YtboinjkeaffboaaDoorExg
namespace Go.Proofs.YtboinjkeaffboaaDoor
set_option maxRecDepth 100000
open Go.RowKit
set_option linter.unusedVariables false
/-- The mean of a sum in a state, as a word. -/
def meanW (f : Nat) (t n : Int) : Nat := if n < 1 then 9221120237041090561 else if (f.testBit 0 || f.testBit 1 || f.testBit 2) = true ∨ t = 0 then valueW f t else signN (decide (t < 0)) (nearQ t.natAbs n.natAbs (-1074))
set_option maxHeartbeats 1000000 in
theorem pmean_low (w : World) (N : Nat) (n : Int) (hn : n < 1) : Calls Tryd.prog 17 #[.pointer (some ⟨N, 0, none⟩), .int .i64 n] w (ValueP 9221120237041090561 w) := by
  have HN := Lib.hid (fun w => fnan_any w)
  unfold ValueP
  go_enter Tryd.func17, Tryd.ntmps17
  go_wp2_with fail
  refine (HN.out _).mono ?_; rintro e w1 ⟨rfl, rfl⟩
  go_wp2_with fail
  go_ret
  exact ⟨rfl, Below.refl _ _⟩
set_option maxHeartbeats 1000000 in
theorem pmean_same (w : World) (N f : Nat) (t n : Int) (hs : SumAt w N f t) (hn : ¬ n < 1) (hT : Tab w) (h : (f.testBit 0 || f.testBit 1 || f.testBit 2) = true ∨ t = 0) :
    Calls Tryd.prog 17 #[.pointer (some ⟨N, 0, none⟩), .int .i64 n] w (ValueP (valueW f t) w) := by
  have HV := Lib.hid (pvalue_any w N f t hs hT)
  obtain ⟨-, -, -, -, -, g7⟩ := has_all w N f t hs
  have H7 := Lib.hid g7
  have HU := Lib.hid (show Calls Tryd.prog 38 #[.pointer (some ⟨N, 0, none⟩)] w fun e w' => e = .returned (.bool true) ∧ w = w' by obtain ⟨v, h, -⟩ := hs; exact usable_any w N _ _ _ _ h)
  obtain ⟨v, c1, m1, hg⟩ := hs
  obtain ⟨a, ha, ht, hz, hl⟩ := m1.list hg.2.2
  obtain ⟨p, c, rfl⟩ := ha.shape
  have hlen := wlist_len ha ht hz
  obtain ⟨r0, -, -, -⟩ := c1.reads
  generalize valueW f t = R at *
  generalize (f.testBit 0 || f.testBit 1 || f.testBit 2) = b at *
  generalize a.length = al at *
  unfold ValueP at *
  by_cases h0 : t = 0
  · obtain rfl : al = 0 := hlen.2 (by omega)
    clear c1 m1 hg ha ht hz hl g7 hT h hlen h0 H7
    go_enter Tryd.func17, Tryd.ntmps17
    go_wp2_with fail
    refine (HU.out).mono ?_; rintro e w1 ⟨rfl, rfl⟩
    go_wp2_with fail
    refine (HV.out).mono ?_; rintro e w2 ⟨rfl, h2⟩
    have HE := Lib.hid h2
    clear h2 HV HU
    go_wp2_with fail
    go_ret
    exact ⟨rfl, HE.out⟩
  · obtain rfl : b = true := h.resolve_right h0
    have hal : ((al : Int) == 0) = false := by simp; omega
    clear c1 m1 hg ha ht hz hl g7 hT h hlen h0
    go_enter Tryd.func17, Tryd.ntmps17
    go_wp2_with fail
    refine (HU.out).mono ?_; rintro e w1 ⟨rfl, rfl⟩
    go_wp2_with fail
    refine (H7.out).mono ?_; rintro e w1 ⟨rfl, rfl⟩
    go_wp2_with fail
    refine (HV.out).mono ?_; rintro e w2 ⟨rfl, h2⟩
    have HE := Lib.hid h2
    clear h2 HV HU H7
    go_wp2_with fail
    go_ret
    exact ⟨rfl, HE.out⟩
theorem quo_mean {p q K : Nat} (hp : p ≠ 0) (hq : q ≠ 0) (hK : (1074 : Int) = K) : quoN p (q * 2 ^ K) = nearQ p q (-1074) := by
  unfold quoN
  have hq2 : q * 2 ^ K ≠ 0 := Nat.mul_ne_zero hq (Nat.ne_of_gt (Nat.two_pow_pos _))
  rw [if_neg (by omega), nearQ_unit (by omega), hK]
theorem unit_bits {n K : Nat} (hn : n ≠ 0) (hn2 : n ≤ 9223372036854775807) (hK : K ≤ 1074) : bitsZ ((n * 2 ^ K : Nat) : Int) ≤ 3000 := by
  have h64 : (2 : Nat) ^ 64 = 18446744073709551616 := by decide
  have h2 : n * 2 ^ K < 2 ^ 64 * 2 ^ K := Nat.mul_lt_mul_of_pos_right (by omega) (Nat.two_pow_pos _)
  rw [← Nat.pow_add] at h2
  exact Nat.le_trans (bits_upto (Nat.mul_ne_zero hn (Nat.ne_of_gt (Nat.two_pow_pos _))) h2) (by omega)
set_option maxHeartbeats 2000000 in
theorem pmean_any5 (w : World) (N f : Nat) (t n : Int) (hs : SumAt w N f t) (hn : ¬ n < 1) (hn2 : n ≤ 9223372036854775807) (hT : Tab w) (h7 : (f.testBit 0 || f.testBit 1 || f.testBit 2) = false) (h0 : t ≠ 0) :
    Calls Tryd.prog 17 #[.pointer (some ⟨N, 0, none⟩), .int .i64 n] w (ValueP (signN (decide (t < 0)) (nearQ t.natAbs n.natAbs (-1074))) w) := by
  obtain ⟨-, -, -, -, -, g7⟩ := has_all w N f t hs
  rw [h7] at g7
  have H7 := Lib.hid g7
  have HU := Lib.hid (show Calls Tryd.prog 38 #[.pointer (some ⟨N, 0, none⟩)] w fun e w' => e = .returned (.bool true) ∧ w = w' by obtain ⟨v, h, -⟩ := hs; exact usable_any w N _ _ _ _ h)
  obtain ⟨v, c1, m1, hg⟩ := hs
  obtain ⟨a, ha, ht, hz, hl⟩ := m1.list hg.2.2
  obtain ⟨p, c, rfl⟩ := ha.shape
  have hlen := wlist_len ha ht hz
  obtain ⟨r0, r1, -, -⟩ := c1.reads
  have HC := Lib.hid (fun w1 (h : Below w.heap.size w w1) => (c1.below h).reads)
  have HO := Lib.hid (fun w1 => of_any' n (by omega) (by omega) w1)
  obtain ⟨K, hK⟩ : ∃ K : Nat, (1074 : Int) = K := ⟨1074, rfl⟩
  have hK2 : K ≤ 1074 := by omega
  have HSh := Lib.hid (fun (w1 : World) y a (hy : WList w1 y a) (la : a.length ≤ 274877906944) => show Calls Tryd.prog 40 #[y, .int .i64 1074] w1 (FreshOk w1 (wv a * 2 ^ K) (a.length + K / 32 + 1)) by rw [hK]; exact shl_any y a w1 hy la K (by omega))
  have HQ := Lib.hid (fun (w1 : World) u b (hb : Below w.heap.size w w1) (hu : WList w1 u b) (hq : wv b = n * 2 ^ K) => show Calls Tryd.prog 42 #[.bool (decide (t < 0)), .slice p a.length c, u] w1 (fun r w' => r = .returned (.float .f64 (signN (decide (t < 0)) (nearQ t.natAbs n.natAbs (-1074)))) ∧ Below w1.heap.size w1 w') by
    rw [← quo_mean (by omega) (by omega) hK]
    have e : wv b = ((n.natAbs * 2 ^ K : Nat) : Int) := by rw [hq]; simp [show (n.natAbs : Int) = n by omega]
    refine pquot_any _ _ u a b t.natAbs (n.natAbs * 2 ^ K) w1 (ha.below hb) hu (by omega) hz e (Nat.le_trans hg.2.2 (by decide)) ?_ (hT.call hb)
    exact unit_bits (by omega) (by omega) hK2)
  have hal : ((a.length : Int) == 0) = false := by rw [beq_eq_false_iff_ne]; omega
  generalize signN (decide (t < 0)) (nearQ t.natAbs n.natAbs (-1074)) = R at *
  generalize decide (t < 0) = x at *
  generalize a.length = al at *
  have hK3 := Lib.hid hK2
  unfold ValueP
  clear c1 m1 hg ha ht hz hl g7 hT h7 hlen h0 hK hK2
  go_enter Tryd.func17, Tryd.ntmps17
  go_wp2_with fail
  refine (HU.out).mono ?_; rintro e w1 ⟨rfl, rfl⟩
  go_wp2_with fail
  refine (H7.out).mono ?_; rintro e w1 ⟨rfl, rfl⟩
  clear H7 HU
  go_wp2_with fail
  refine (HO.out _).mono ?_; rintro e w1 ⟨y, b, rfl, g1, g2, g3, g4, g5, g6⟩
  have hy := own_wlist g1 g2 (by omega)
  have hb2 : b.length ≤ 2 := g5
  have HS1 := Lib.hid (HSh.out w1 y b hy (by omega))
  rw [g4] at HS1
  have HB1 := Lib.hid g6
  obtain ⟨p1, d1, rfl⟩ := hy.shape
  clear g1 g2 g3 g4 g5 g6 hy HSh HO
  go_wp2_with fail
  refine (HS1.out).mono ?_; rintro e w2 ⟨y2, rfl, y3, b2, e', g1, g2, g3, g4, g5, g6⟩
  obtain rfl : y2 = y3 := by simpa using e'
  have hy2 := own_wlist g1 g2 (by have := hK3.out; omega)
  have hB2 := below_then HB1.out g6
  have hc2 := HC.out w2 hB2
  have HQ1 := Lib.hid (fun (w3 : World) (h : Below w2.heap.size w2 w3) => HQ.out w3 y2 b2 (below_then hB2 h) (hy2.below h) g4)
  have HB2 := Lib.hid hB2
  obtain ⟨p2, d2, rfl⟩ := hy2.shape
  generalize b2.length = bl at *
  clear g1 g2 g3 g4 g5 g6 hy2 HS1 HQ HB1 e' hB2 r0 r1
  go_upto_region 6 with fail
  have hk : w2.drew.cell? ⟨N, 0, none⟩ = some (.slice p al c) ∧ w2.drew.cell? ⟨N, 1, none⟩ = some (.bool x) := ⟨by simp [hc2.1], by simp [hc2.2.1]⟩
  have hBw : Below w2.heap.size w2 w2.drew := (Below.refl _ _).drew
  go_region_held3 (fun w' => w'.cell? ⟨N, 0, none⟩ = some (.slice p al c) ∧ w'.cell? ⟨N, 1, none⟩ = some (.bool x)) (with_reducible exact hk)
    ((go_at_call 42; refine (HQ1.out _ hBw).mono ?_; rintro e w3 ⟨rfl, g6⟩; have hk := And.intro (cell_later g6 hk.1) (cell_later g6 hk.2); have HE := Lib.hid (below_then HB2.out (below_then hBw g6)); clear g6 hBw))
  clear hk hc2
  go_wp2_with fail
  go_ret
  exact ⟨rfl, HE.out⟩
theorem xmean_any (w : World) (N f : Nat) (t n : Int) (hs : SumAt w N f t) (hn2 : n ≤ 9223372036854775807) (hT : Tab w) :
    Calls Tryd.prog 17 #[.pointer (some ⟨N, 0, none⟩), .int .i64 n] w (ValueP (meanW f t n) w) := by
  unfold meanW
  by_cases hn : n < 1
  · rw [if_pos hn]; exact pmean_low w N n hn
  · rw [if_neg hn]
    by_cases h : (f.testBit 0 || f.testBit 1 || f.testBit 2) = true ∨ t = 0
    · rw [if_pos h]; exact pmean_same w N f t n hs hn hT h
    · rw [if_neg h]
      exact pmean_any5 w N f t n hs hn hn2 hT (by cases e : (f.testBit 0 || f.testBit 1 || f.testBit 2) with | false => rfl | true => exact absurd (.inl e) h) (fun e => h (.inr e))
/-- A pointer behind which no sum stands. -/
def NoSum (w : World) (q : Option Addr) : Prop := ∀ w', Below w.heap.size w w' → Calls Tryd.prog 38 #[.pointer q] w' fun e w'' => e = .returned (.bool false) ∧ w' = w''
theorem noSum_nil (w : World) : NoSum w none := fun w' _ => usable_nil w'
theorem noSum_made (w : World) (N : Nat) (v : Value) (b : Bool) (f : Nat) (h : Cells4 w N v b f false) : NoSum w (some ⟨N, 0, none⟩) := fun w' hb => usable_any w' N _ _ _ _ (h.below hb)
theorem NoSum.below {w w' : World} {q : Option Addr} (h : NoSum w q) (hb : Below w.heap.size w w') : NoSum w' q := fun w2 hb2 => h w2 (below_then hb hb2)
set_option maxHeartbeats 1000000 in
theorem join_no1 (w : World) (q r : Option Addr) (h : NoSum w q) : Calls Tryd.prog 21 #[.pointer q, .pointer r] w fun e w' => e = .returned (.bool false) ∧ w = w' := by
  have H := Lib.hid (h w (Below.refl _ _))
  clear h
  go_enter Tryd.func21, Tryd.ntmps21
  go_wp2_with fail
  refine (H.out).mono ?_; rintro e w1 ⟨rfl, rfl⟩
  go_wp2_with fail
  go_ret
  exact ⟨rfl, rfl⟩
set_option maxHeartbeats 1000000 in
theorem join_no2 (w : World) (N f : Nat) (t : Int) (r : Option Addr) (hs : SumAt w N f t) (h : NoSum w r) : Calls Tryd.prog 21 #[.pointer (some ⟨N, 0, none⟩), .pointer r] w fun e w' => e = .returned (.bool false) ∧ w = w' := by
  have H := Lib.hid (h w (Below.refl _ _))
  have HU := Lib.hid (show Calls Tryd.prog 38 #[.pointer (some ⟨N, 0, none⟩)] w fun e w' => e = .returned (.bool true) ∧ w = w' by obtain ⟨v, h, -⟩ := hs; exact usable_any w N _ _ _ _ h)
  clear h hs
  go_enter Tryd.func21, Tryd.ntmps21
  go_wp2_with fail
  refine (HU.out).mono ?_; rintro e w1 ⟨rfl, rfl⟩
  go_wp2_with fail
  refine (H.out).mono ?_; rintro e w1 ⟨rfl, rfl⟩
  go_wp2_with fail
  go_ret
  exact ⟨rfl, rfl⟩
set_option maxHeartbeats 1000000 in
theorem add_no (w : World) (q : Option Addr) (x : Nat) (h : NoSum w q) (hx : W64 x) (hT : Tab64 w) : Calls Tryd.prog 12 #[.pointer q, .float .f64 x] w (OverP w) := by
  have HA := Lib.hid (alone_any x w hx hT)
  have H := Lib.hid (fun w1 (hb : Below w.heap.size w w1) r => join_no1 w1 q r (h.below hb))
  unfold OverP
  clear h hx hT
  go_enter Tryd.func12, Tryd.ntmps12
  go_wp2_with fail
  refine (HA.out).mono ?_; rintro e w1 ⟨rfl, -, hb⟩
  have HJ := Lib.hid (H.out w1 hb (some ⟨w.heap.size, 0, none⟩))
  have HB := Lib.hid hb
  clear hb HA H
  go_wp2_with fail
  refine (HJ.out).mono ?_; rintro e w2 ⟨rfl, rfl⟩
  go_wp2_with fail
  go_ret
  exact ⟨rfl, HB.out⟩
theorem value_no (w : World) (q : Option Addr) (h : NoSum w q) : Calls Tryd.prog 23 #[.pointer q] w fun e w' => e = .returned (.float .f64 0) ∧ w = w' := by
  have H := Lib.hid (h w (Below.refl _ _))
  clear h
  go_enter Tryd.func23, Tryd.ntmps23
  go_wp2_with fail
  refine (H.out).mono ?_; rintro e w1 ⟨rfl, rfl⟩
  go_wp2_with fail
  go_ret
  exact ⟨rfl, rfl⟩
theorem mean_no (w : World) (q : Option Addr) (h : NoSum w q) : Calls Tryd.prog 17 #[.pointer q, .int .i64 1] w fun e w' => e = .returned (.float .f64 0) ∧ w = w' := by
  have H := Lib.hid (h w (Below.refl _ _))
  have HV := Lib.hid (value_no w q h)
  clear h
  go_enter Tryd.func17, Tryd.ntmps17
  go_wp2_with fail
  refine (H.out).mono ?_; rintro e w1 ⟨rfl, rfl⟩
  go_wp2_with fail
  refine (HV.out).mono ?_; rintro e w1 ⟨rfl, rfl⟩
  go_wp2_with fail
  go_ret
  exact ⟨rfl, rfl⟩
theorem bytes_no (w : World) (q : Option Addr) (h : NoSum w q) : Calls Tryd.prog 22 #[.pointer q] w fun e w' => e = .returned (.slice none 0 0) ∧ w = w' := by
  have H := Lib.hid (h w (Below.refl _ _))
  clear h
  go_enter Tryd.func22, Tryd.ntmps22
  go_wp2_with fail
  refine (H.out).mono ?_; rintro e w1 ⟨rfl, rfl⟩
  go_wp2_with fail
  go_ret
  exact ⟨rfl, rfl⟩
end Go.Proofs.YtboinjkeaffboaaDoor
