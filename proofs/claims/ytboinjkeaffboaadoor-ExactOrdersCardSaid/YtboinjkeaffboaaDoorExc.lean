/- Package exact: alone, totals, Join, Add. -/
import Derived.Test.YtboinjkeaffboaaDoorExb
namespace Go.Proofs.YtboinjkeaffboaaDoor
set_option maxRecDepth 100000
open Go.RowKit
set_option linter.unusedVariables false
/-- What either Split answers of a float that counts as another finite number. -/
def SplitU (b : Bool) (t : Int) (w : World) (e : Ending) (w' : World) : Prop := (∃ m k : Int, 0 ≤ m ∧ m ≤ 18446744073709551615 ∧ -1074 ≤ k ∧ k ≤ 1023 ∧ (∀ N : Nat, k + 1074 = N → m * 2 ^ N = (t.natAbs : Int)) ∧ e = .returned (.tuple #[.bool b, .int .u64 m, .int .i64 k])) ∧ Drawn w w'
theorem split_u {x c : Nat} {q : Int} {w : World} (hx : W64 x) (hk : kindI x = 1) (hc : Canon c q) (hq : q ≤ 971) (h0 : c ≠ 0) (hr : rungOf c q = x % 9223372036854775808) : ∀ e w', SplitPost x c q w e w' → SplitU (negB x) (unitsI x) w e w' := by
  rintro e w' ⟨⟨m, k, hs, rfl⟩, hd⟩
  have hge := hs.ge
  obtain ⟨s1, s2, s3, s4⟩ := hs
  have hb := rank_bounds hc hq h0 s3
  have hq1 := hc.2.1
  refine ⟨⟨m, k, by omega, by omega, by omega, by omega, fun N hN => ?_, rfl⟩, hd⟩
  unfold unitsI
  rw [if_pos hk, signed_abs, ← hr, units_canon hc]
  have hv := same_val (b := -1074) s3 (by omega) (by omega)
  rw [show (k - -1074).toNat = N by omega, show (q - -1074).toNat = (q + 1074).toNat by omega] at hv
  rw [← hv]
  have : ((m.toNat : Nat) : Int) = m := by omega
  simp [this]
theorem psplit_u (x c : Nat) (q : Int) (w : World) (hx : W64 x) (hk : kindI x = 1) (hT : Tab64 w) : Calls Tryd.prog 61 #[.float .f64 x] w (SplitU (negB x) (unitsI x) w) := by
  obtain ⟨-, -, -, h4, h5⟩ := kind_one hx hk
  obtain ⟨c, q, hc, hq, h0, hr⟩ := canon_of_fin h4 h5
  refine (psplit_fin x c q w hx hk hc hq h0 hr hT).mono ?_
  rintro e w' ⟨⟨m, k, hs, rfl⟩, hd⟩
  exact split_u hx hk hc hq h0 hr _ _ ⟨⟨m, k, hs, rfl⟩, hd⟩
theorem units_neg {x : Nat} (hx : W64 x) (hk : kindI x = 1) : decide (unitsI x < 0) = negB x := by
  obtain ⟨-, -, -, h4, h5⟩ := kind_one hx hk
  have h6 := (near_float (r := x % 9223372036854775808) (by omega) h5).2
  unfold unitsI
  rw [if_pos hk]
  cases negB x
  · exact decide_eq_false (by simp [signed])
  · exact decide_eq_true (by simp [signed]; omega)
theorem units_other {x : Nat} (hk : kindI x ≠ 1) : unitsI x = 0 := by unfold unitsI; rw [if_neg hk]
theorem below_pos {x : Nat} (hk : kindI x ≠ 1) (h : flagN x = 16) : belowB x = false := by
  unfold flagN kindI at *
  unfold belowB
  cases h1 : isNaNB x <;> cases h2 : isInfB x <;> cases h3 : isZeroB x <;> cases h4 : negB x <;> simp_all
/-- Both Splits where the flag is another finite number. -/
theorem psplit_16 (x : Nat) (w : World) (hx : W64 x) (h16 : flagN x = 16) (hT : Tab64 w) : Calls Tryd.prog 61 #[.float .f64 x] w (SplitU (decide (unitsI x < 0)) (unitsI x) w) := by
  by_cases hk : kindI x = 1
  · rw [units_neg hx hk]; exact psplit_u x 0 0 w hx hk hT
  · refine (psplit_other x w hx hk).mono ?_
    rintro e w' ⟨rfl, rfl⟩
    rw [units_other hk, below_pos hk h16]
    exact ⟨⟨0, 0, by omega, by omega, by omega, by omega, fun N _ => by simp, rfl⟩, Drawn.refl _⟩
theorem Cells4.set1 {w : World} {N : Nat} {v : Value} {b m : Bool} {f : Nat} (h : Cells4 w N v b f m) (b' : Bool) : Cells4 (w.setCell ⟨N, 1, none⟩ (.bool b')) N v b' f m := by
  unfold Cells4 at *
  simp [World.setCell, Array.getElem?_modify, h]
theorem Cells4.set0 {w : World} {N : Nat} {v : Value} {b m : Bool} {f : Nat} (h : Cells4 w N v b f m) (v' : Value) : Cells4 (w.setCell ⟨N, 0, none⟩ v') N v' b f m := by
  unfold Cells4 at *
  simp [World.setCell, Array.getElem?_modify, h]
def AloneP (x : Nat) (w : World) (e : Ending) (w' : World) : Prop := e = .returned (.pointer (some ⟨w.heap.size, 0, none⟩)) ∧ SumAt w' w.heap.size (flagN x) (unitsI x) ∧ Below w.heap.size w w'
theorem kind_of_flag {x : Nat} (hx : W64 x) (h : flagN x ≠ 16) : unitsI x = 0 := units_other fun hk => h (flag_one hx hk)
set_option maxHeartbeats 1000000 in
theorem alone_16 (x : Nat) (t : Int) (w : World) (hx : W64 x) (h16 : flagN x = 16) (ht : unitsI x = t) (hT : Tab64 w) : Calls Tryd.prog 32 #[.float .f64 x] w fun e w' => e = .returned (.pointer (some ⟨w.heap.size, 0, none⟩)) ∧ SumAt w' w.heap.size 16 t ∧ Below w.heap.size w w' := by
  have HG := good_one x hx
  have HF := Lib.hid (fun w => xflag_any x w hx)
  have HS := Lib.hid (fun w1 (h : Below w.heap.size w w1) => psplit_16 x w1 hx h16 (hT.call h))
  rw [h16] at HF HG
  rw [ht] at HS HG
  have HG := Lib.hid HG
  have HO := Lib.hid (fun (m : Int) w1 (h0 : 0 ≤ m) (h1 : m ≤ 18446744073709551615) => of_any' m h0 h1 w1)
  have HSh := Lib.hid (fun (w1 : World) y a (n : Int) (N : Nat) (hn : n = N) (hN : N ≤ 8192) (hy : WList w1 y a) (la : a.length ≤ 274877906944) => show Calls Tryd.prog 40 #[y, .int .i64 n] w1 (FreshOk w1 (wv a * 2 ^ N) (a.length + N / 32 + 1)) by subst hn; exact shl_any y a w1 hy la N hN)
  clear hx hT h16 ht
  go_enter Tryd.func32, Tryd.ntmps32
  go_wp2_with fail
  refine (xnew_any _).mono ?_; rintro e w1 ⟨rfl, rfl⟩
  go_wp2_with fail
  refine (HF.out _).mono ?_; rintro e w1 ⟨rfl, rfl⟩
  go_wp2_with fail
  refine (HS.out _ (below_one w _)).mono ?_; rintro e w2 ⟨⟨m, k, m0, m1, k0, k1, hmk, rfl⟩, hd⟩
  have hC : Cells4 w2 w.heap.size (.slice none 0 0) false 16 true := (Cells4.new w _ false 16 true).below hd.below
  have hB : Below w.heap.size w w2 := below_then (below_one w _) hd.below
  obtain ⟨N, hN⟩ := Int.eq_ofNat_of_zero_le (show 0 ≤ k + 1074 by omega)
  have HN := Lib.hid (And.intro hN (hmk N hN))
  have hC2 := hC.set1 (decide (t < 0))
  have hB2 := hB.setCell (p := ⟨w.heap.size, 1, none⟩) (Nat.le_refl _) (.bool (decide (t < 0)))
  obtain ⟨r0, r1, r2, r3⟩ := hC.reads
  obtain ⟨z0, z1, z2, z3⟩ := hC.free
  have HC2 := Lib.hid hC2
  have HB2 := Lib.hid hB2
  clear hC hB hd hmk hN hC2 hB2 HS HF
  go_wp2_with fail
  refine (HO.out m _ m0 m1).mono ?_; rintro e w3 ⟨y, a, rfl, g1, g2, g3, g4, g5, g6⟩
  have hy := own_wlist g1 g2 (by omega)
  have HS1 := Lib.hid (HSh.out w3 y a (k - -1074) N (by have := HN.out.1; omega) (by have := HN.out.1; omega) hy (by omega))
  rw [g4, HN.out.2] at HS1
  have HC3 := Lib.hid (HC2.out.below g6)
  have HB3 := Lib.hid (HB2.out.trans (g6.mono HB2.out.size))
  have ha2 : a.length ≤ 2 := g5
  clear r0 r1 r2 r3 z0 z1 z2 z3 g1 g2 g3 g4 g5 g6 HSh HO HC2 HB2
  obtain ⟨p, c, rfl⟩ := hy.shape
  clear hy
  go_wp2_with fail
  refine (HS1.out).mono ?_; rintro e w4 ⟨v, rfl, v', a', e', g1, g2, g3, g4, g5, g6⟩
  obtain rfl : v = v' := by simpa using e'
  have hM : Mag w4 v t := ⟨a', own_wlist g1 g2 (by have := HN.out.1; omega), Typed.own g1, g3, g4⟩
  have hC4 := HC3.out.below g6
  have hB4 := HB3.out.trans (g6.mono HB3.out.size)
  have HE := Lib.hid (show SumAt (w4.setCell ⟨w.heap.size, 0, none⟩ v) w.heap.size 16 t from ⟨v, hC4.set0 v, hM.grown hC4 (grown_set _ _ _ _), HG.out⟩)
  have HE2 := Lib.hid (hB4.setCell (p := ⟨w.heap.size, 0, none⟩) (Nat.le_refl _) v)
  obtain ⟨r0, r1, r2, r3⟩ := hC4.reads
  obtain ⟨z0, z1, z2, z3⟩ := hC4.free
  obtain ⟨p2, c2, rfl⟩ := (own_wlist g1 g2 (by have := HN.out.1; omega)).shape
  clear hM hC4 hB4 g1 g2 g3 g4 g5 g6 e' HS1 HC3 HB3 HG ha2
  go_wp2_with fail
  go_ret
  exact ⟨rfl, HE.out, HE2.out⟩
set_option maxHeartbeats 1000000 in
theorem alone_other (x f : Nat) (w : World) (hx : W64 x) (h16 : flagN x = f) (hf : f ≠ 16) : Calls Tryd.prog 32 #[.float .f64 x] w fun e w' => e = .returned (.pointer (some ⟨w.heap.size, 0, none⟩)) ∧ SumAt w' w.heap.size f 0 ∧ Below w.heap.size w w' := by
  have HG := good_one x hx
  have HF := Lib.hid (fun w => xflag_any x w hx)
  rw [h16] at HF HG
  rw [kind_of_flag hx (by omega)] at HG
  have HE := Lib.hid (show SumAt (w.alloc (.cells #[.slice none 0 0, .bool false, .int .u8 f, .bool true] 60)) w.heap.size f 0 from ⟨_, Cells4.new w _ _ _ _, mag_zero, HG⟩)
  have hc : ((f : Int) == 16) = false := by simp; omega
  clear hx h16 hf HG
  go_enter Tryd.func32, Tryd.ntmps32
  go_wp2_with fail
  refine (xnew_any _).mono ?_; rintro e w1 ⟨rfl, rfl⟩
  go_wp2_with fail
  refine (HF.out _).mono ?_; rintro e w1 ⟨rfl, rfl⟩
  go_wp2_with fail
  go_ret
  exact ⟨rfl, HE.out, below_one _ _⟩
theorem alone_any (x : Nat) (w : World) (hx : W64 x) (hT : Tab64 w) : Calls Tryd.prog 32 #[.float .f64 x] w (AloneP x w) := by
  unfold AloneP
  by_cases h16 : flagN x = 16
  · rw [h16]; exact alone_16 x _ w hx h16 rfl hT
  · rw [kind_of_flag hx h16]; exact alone_other x _ w hx rfl h16
end Go.Proofs.YtboinjkeaffboaaDoor
