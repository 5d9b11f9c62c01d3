/- CrcBursts: for any bytes, any place and any change the statement's function returns true and changes nothing that was there. No condition; the row lists the package's table as the program's text lays it. -/
import Derived.Test.YtagogjdibbckkaaDoorCrcd
import Derived.Laws.IdiomArrays
import Derived.Deep.RegionLaw
namespace Go.Proofs.YtagogjdibbckkaaDoor.crcBursts
set_option maxRecDepth 100000
open Go.ChangeShapes Go.WideShapes Go.ChangeAt Go.RowKit
set_option linter.unusedVariables false
def xorAt (z x : List Int) (A : Nat) : Nat → List Int
  | 0 => z
  | k + 1 => (xorAt z x A k).set (A + k) (((z.getD (A + k) 0).toNat ^^^ (x.getD k 0).toNat : Nat) : Int)
theorem xorAt_len (z x : List Int) (A k : Nat) : (xorAt z x A k).length = z.length := by
  induction k with
  | zero => rfl
  | succ k ih => rw [xorAt, List.length_set, ih]
theorem xorAt_get (z x : List Int) (A k j : Nat) (hj : j < z.length) : (xorAt z x A k).getD j 0 = if A ≤ j ∧ j < A + k then (((z.getD j 0).toNat ^^^ (x.getD (j - A) 0).toNat : Nat) : Int) else z.getD j 0 := by
  induction k with
  | zero => rw [if_neg (by omega)]; rfl
  | succ k ih =>
    have hl := xorAt_len z x A k
    by_cases h : j = A + k
    · subst h
      rw [if_pos (by omega), xorAt, show A + k - A = k by omega]
      simp [List.getD, hl, hj]
    · have e : (xorAt z x A (k + 1)).getD j 0 = (xorAt z x A k).getD j 0 := by
        rw [xorAt]; simp only [List.getD]; rw [List.getElem?_set_ne (by omega)]
      rw [e, ih]
      by_cases h2 : A ≤ j ∧ j < A + k
      · rw [if_pos h2, if_pos (by omega)]
      · rw [if_neg h2, if_neg (by omega)]
theorem ext_getD {a b : List Int} (hl : a.length = b.length) (h : ∀ j, j < a.length → a.getD j 0 = b.getD j 0) : a = b := by
  apply List.ext_getElem hl
  intro j h1 h2
  have := h j h1
  simpa [List.getD, h1, h2] using this
theorem xorAt_take (z x : List Int) (A k : Nat) : (xorAt z x A k).take A = z.take A := by
  apply ext_getD (by simp [xorAt_len])
  intro j hj
  have hj2 : j < A ∧ j < z.length := by rw [List.length_take, xorAt_len] at hj; omega
  have e1 : ((xorAt z x A k).take A).getD j 0 = (xorAt z x A k).getD j 0 := by simp [List.getD, hj2.1]
  have e2 : (z.take A).getD j 0 = z.getD j 0 := by simp [List.getD, hj2.1]
  rw [e1, e2, xorAt_get z x A k j hj2.2, if_neg (by omega)]
theorem xorAt_drop (z x : List Int) (A k : Nat) : (xorAt z x A k).drop (A + k) = z.drop (A + k) := by
  apply ext_getD (by simp [xorAt_len])
  intro j hj
  have hj2 : A + k + j < z.length := by rw [List.length_drop, xorAt_len] at hj; omega
  have e1 : ((xorAt z x A k).drop (A + k)).getD j 0 = (xorAt z x A k).getD (A + k + j) 0 := by simp [List.getD]
  have e2 : (z.drop (A + k)).getD j 0 = z.getD (A + k + j) 0 := by simp [List.getD]
  rw [e1, e2, xorAt_get z x A k _ hj2, if_neg (by omega)]
theorem xorAt_byt {z x : List Int} (hz : Byt z) (hx : Byt x) (A k : Nat) : Byt (xorAt z x A k) := by
  intro y hy
  obtain ⟨j, hj, rfl⟩ := List.mem_iff_getElem.1 hy
  have hj2 : j < z.length := by rw [xorAt_len] at hj; exact hj
  have e : (xorAt z x A k)[j] = (xorAt z x A k).getD j 0 := by simp [List.getD, hj]
  rw [e, xorAt_get z x A k j hj2]
  have h1 := byt_getD hz j
  have h2 := byt_getD hx (j - A)
  split
  · have : (z.getD j 0).toNat ^^^ (x.getD (j - A) 0).toNat < 2 ^ 8 := Nat.xor_lt_two_pow (by omega) (by omega)
    omega
  · exact h1
/-- Are the first k of these 0? -/
def zeroB (x : List Int) : Nat → Bool
  | 0 => true
  | k + 1 => zeroB x k && (x.getD k 0 == 0)
theorem zeroB_iff (x : List Int) (k : Nat) : zeroB x k = true ↔ ∀ j, j < k → x.getD j 0 = 0 := by
  induction k with
  | zero => simp [zeroB]
  | succ k ih =>
    rw [zeroB, Bool.and_eq_true, ih, beq_iff_eq]
    constructor
    · rintro ⟨h1, h2⟩ j hj
      by_cases h : j = k
      · rw [h]; exact h2
      · exact h1 j (by omega)
    · exact fun h => ⟨fun j hj => h j (by omega), h k (by omega)⟩
theorem xorAt_same {z x : List Int} (hz : Byt z) {A k : Nat} (h : ∀ j, j < k → x.getD j 0 = 0) : xorAt z x A k = z := by
  apply ext_getD (xorAt_len z x A k)
  intro j hj
  have hj2 : j < z.length := by rw [xorAt_len] at hj; exact hj
  rw [xorAt_get z x A k j hj2]
  have h1 := byt_getD hz j
  split
  · rw [h (j - A) (by omega), Int.toNat_zero, Nat.xor_zero]; omega
  · rfl
theorem cut3 (z : List Int) (A k : Nat) : z = z.take A ++ (z.drop A).take k ++ z.drop (A + k) := by
  rw [← List.drop_drop, List.append_assoc, List.take_append_drop, List.take_append_drop]
theorem xor_self_zero {a b : Nat} (h : a = a ^^^ b) : b = 0 := by
  have h2 : a ^^^ a = a ^^^ (a ^^^ b) := by rw [← h]
  rw [← Nat.xor_assoc, Nat.xor_self, Nat.zero_xor] at h2
  exact h2.symm
theorem xorAt_mid {z x : List Int} (hz : Byt z) (hx : Byt x) {A k : Nat} (hA : A + k ≤ z.length) : (z.drop A).take k = ((xorAt z x A k).drop A).take k ↔ zeroB x k = true := by
  rw [zeroB_iff]
  constructor
  · intro h j hj
    have e1 : ((z.drop A).take k).getD j 0 = z.getD (A + j) 0 := by simp [List.getD, hj]
    have e2 : (((xorAt z x A k).drop A).take k).getD j 0 = (xorAt z x A k).getD (A + j) 0 := by simp [List.getD, hj]
    rw [h, e2, xorAt_get z x A k _ (by omega), if_pos (by omega), show A + j - A = j by omega] at e1
    have h1 := byt_getD hz (A + j)
    have h2 := byt_getD hx j
    have := xor_self_zero (a := (z.getD (A + j) 0).toNat) (b := (x.getD j 0).toNat) (by omega)
    omega
  · intro h
    rw [xorAt_same hz h]
theorem bursts_eq {z x : List Int} (hz : Byt z) (hx : Byt x) {A k : Nat} (hA : A + k ≤ z.length) (hk : k ≤ 4) : ((moreN 0 z : Nat) : Int) = ((moreN 0 (xorAt z x A k) : Nat) : Int) ↔ zeroB x k = true := by
  rw [← xorAt_mid hz hx hA]
  have h := burst_iff (p := z.take A) (a := (z.drop A).take k) (b := ((xorAt z x A k).drop A).take k) (q := z.drop (A + k)) (byt_take hz A) (byt_take (byt_drop hz A) k) (byt_take (byt_drop (xorAt_byt hz hx A k) A) k) (byt_drop hz _)
    (by simp [xorAt_len]) (by rw [List.length_take]; omega)
  have e2 : xorAt z x A k = z.take A ++ ((xorAt z x A k).drop A).take k ++ z.drop (A + k) := by
    conv => lhs; rw [cut3 (xorAt z x A k) A k]
    rw [xorAt_take, xorAt_drop]
  rw [← cut3 z A k, ← e2] at h
  rw [← h]
  omega
theorem bursts_bool {z x : List Int} (hz : Byt z) (hx : Byt x) {A k : Nat} (hA : A + k ≤ z.length) (hk : k ≤ 4) : (((moreN 0 z : Nat) : Int) == ((moreN 0 (xorAt z x A k) : Nat) : Int)) = zeroB x k := by
  have h := bursts_eq hz hx hA hk
  rw [Bool.eq_iff_iff, beq_iff_eq]; exact h
theorem bits_xor_u8_nat (a b : Nat) (ha : a < 256) (hb : b < 256) : bits .xor .u8 (a : Int) (b : Int) = ((a ^^^ b : Nat) : Int) := by
  have hx : a ^^^ b < 2 ^ 8 := Nat.xor_lt_two_pow (by omega) (by omega)
  show IntKind.u8.wrap ((BitVec.ofInt 8 (a : Int) ^^^ BitVec.ofInt 8 (b : Int)).toNat : Int) = _
  rw [BitVec.toNat_xor, BitVec.ofInt_natCast, BitVec.ofInt_natCast, BitVec.toNat_ofNat, BitVec.toNat_ofNat, Nat.mod_eq_of_lt (by omega : a < 2 ^ 8), Nat.mod_eq_of_lt (by omega : b < 2 ^ 8), IntKind.wrap_u8]
  omega
abbrev arr4 (x0 x1 x2 x3 : Int) : Value := .agg #[.int .u8 x0, .int .u8 x1, .int .u8 x2, .int .u8 x3]
set_option maxHeartbeats 1000000 in
theorem walk_out (a0 : Option Addr) (len0 cap0 : Nat) (at0 : Int) (x0 x1 x2 x3 : Int) (w : World) (h : 5000 < len0 ∨ at0 < 0 ∨ (len0 : Int) ≤ at0) (hT : Fours w) :
    Calls Tryd.prog 5 #[.slice a0 len0 cap0, .int .i64 at0, arr4 x0 x1 x2 x3] w fun e w' => e = .returned (.bool true) ∧ Below w.heap.size w w' := by
  have hb1 := below_one w (.cells #[.int .u8 x0, .int .u8 x1, .int .u8 x2, .int .u8 x3] 30)
  have HB := Lib.hid hb1
  have HA := Lib.hid (awake6_any _ (hT.call hb1))
  clear hb1 hT
  by_cases h1 : 5000 < len0
  · clear h
    have h2 : 5000 < (len0 : Int) := by omega
    go_enter Tryd.func5, Tryd.ntmps5
    go_wp2_with fail
    refine (HA.out).mono ?_; rintro e w' ⟨rfl, hb⟩
    go_wp2_with fail
    go_ret
    exact ⟨rfl, below_then HB.out hb⟩
  · have h2 : (len0 : Int) ≤ 5000 := by omega
    by_cases h3 : at0 < 0
    · clear h
      go_enter Tryd.func5, Tryd.ntmps5
      go_wp2_with fail
      refine (HA.out).mono ?_; rintro e w' ⟨rfl, hb⟩
      go_wp2_with fail
      go_ret
      exact ⟨rfl, below_then HB.out hb⟩
    · have h4 : (len0 : Int) ≤ at0 := by omega
      have h5 : 0 ≤ at0 := by omega
      clear h
      go_enter Tryd.func5, Tryd.ntmps5
      go_wp2_with fail
      refine (HA.out).mono ?_; rintro e w' ⟨rfl, hb⟩
      go_wp2_with fail
      go_ret
      exact ⟨rfl, below_then HB.out hb⟩
/-- What the loop holds after k rounds. -/
def Laid (w : World) (z x : List Int) (A g n cap k : Nat) (wr : World) : Prop :=
  wr.ownsRow (w.heap.size + 1) 5 1 (.slice (some ⟨g, 0, none⟩) n cap) n ((xorAt z x A k).map (Value.int .u8)) ∧ (∀ j, j < 4 → wr.cell? ⟨w.heap.size, j, none⟩ = some (.int .u8 (x.getD j 0))) ∧ Below w.heap.size w wr
theorem own_form {w : World} {B E : Nat} {v : Value} {n : Nat} {xs : List Value} (h : w.ownsRow B E 1 v n xs) (hn : 0 < n) : ∃ g cap, v = .slice (some ⟨g, 0, none⟩) n cap := by
  rcases h.2 with ⟨_, h0⟩ | ⟨g, cap, cur, hv, _⟩
  · omega
  · exact ⟨g, cap, hv⟩
theorem Laid.drew {w : World} {z x : List Int} {A g n cap k : Nat} {wr : World} (h : Laid w z x A g n cap k wr) : Laid w z x A g n cap k wr.drew :=
  ⟨h.1, h.2.1, h.2.2.drew⟩
theorem Laid.step {w : World} {z x : List Int} {A g n cap k : Nat} {wr : World} (h : Laid w z x A g n cap k wr) {V : Nat} (hV : V = (z.getD (A + k) 0).toNat ^^^ (x.getD k 0).toNat) : Laid w z x A g n cap (k + 1) (wr.setCell ⟨g, A + k, none⟩ (.int .u8 (V : Int))) := by
  have hg := own_ge h.1 g rfl
  refine ⟨?_, fun j hj => ?_, h.2.2.setCell (by simp; omega) _⟩
  · have := (h.1.stored (A + k) (.int .u8 (V : Int))).1
    rw [xorAt, List.map_set, ← hV]; exact this
  · rw [World.cell?_setCell_far _ _ _ _ (by simp; omega)]; exact h.2.1 j hj
set_option maxHeartbeats 2000000 in
theorem walk_mid (a0 : Option Addr) (len0 cap0 A : Nat) (x0 x1 x2 x3 : Int) (z0 : List Int) (w : World) (g0 : Ints .u8 w (.slice a0 len0 cap0) z0) (hb : Byt z0) (hx : Byt [x0, x1, x2, x3]) (l0 : z0.length = len0) (hl : len0 ≤ 5000) (hA : A < len0) (hT : Fours w) :
    Calls Tryd.prog 5 #[.slice a0 len0 cap0, .int .i64 A, arr4 x0 x1 x2 x3] w fun e w' => e = .returned (.bool true) ∧ Below w.heap.size w w' := by
  obtain ⟨i0, hi, hz0, hz1, hz2⟩ := info_parts Tryd.infoU8
  have hb1 := below_one w (.cells #[.int .u8 x0, .int .u8 x1, .int .u8 x2, .int .u8 x3] 30)
  have HB1 := Lib.hid hb1
  have HC : Hid (∀ j, j < 4 → (w.alloc (.cells #[.int .u8 x0, .int .u8 x1, .int .u8 x2, .int .u8 x3] 30)).cell? ⟨w.heap.size, j, none⟩ = some (.int .u8 ([x0, x1, x2, x3].getD j 0))) := Lib.hid (fun j hj => by
    rw [cell_of_row _ _ j _ _ (0, 0) (heap_alloc_last w _)]
    have : j = 0 ∨ j = 1 ∨ j = 2 ∨ j = 3 := by omega
    rcases this with rfl | rfl | rfl | rfl <;> rfl)
  have HG := Lib.hid g0
  have HB := Lib.hid hb
  have HX := Lib.hid hx
  have HL := Lib.hid l0
  have HT := Lib.hid hT
  have hs1 : w.heap.size + 1 ≤ (w.alloc (.cells #[.int .u8 x0, .int .u8 x1, .int .u8 x2, .int .u8 x3] 30)).heap.size := by simp
  clear g0 hb hx l0 hT hb1
  have hd1 : decide ((5000 : Int) < (len0 : Int)) = false := by simp; omega
  have hd2 : decide ((A : Int) < 0) = false := by simp
  have hd3 : decide (len0 ≤ A) = false := by simp; omega
  go_enter Tryd.func5, Tryd.ntmps5
  go_upto_region 3 with fail
  clear hd1 hd2 hd3
  generalize hx4 : [x0, x1, x2, x3] = x at *
  have HX4 := Lib.hid hx4
  clear hx4
  generalize w.alloc (.cells #[.int .u8 x0, .int .u8 x1, .int .u8 x2, .int .u8 x3] 30) = W at *
  go_wp2_with (at_builtin; refine wpList_append_want _ (by rfl) _ _ 22 rfl (w.heap.size + 1) 5 i0 (.int .u8 0) 1 Tryd.underlying22 hi hz0 hz1 hz2 rfl .u8 _ _ [] z0 rfl rfl (World.ownsRow_lit W #[] 0 hs1 (by unfold maxLen; omega) rfl) ((HG.out.below HB1.out).below (below_one W _)) (by have := HL.out; unfold maxLen; simp; omega) (by have := HL.out; simp; omega) (by simp; omega) ?_; intro v1 w2 hown hgrow; rw [List.nil_append] at hown)
  obtain ⟨g, cap, rfl⟩ := own_form hown (by have := HL.out; omega)
  have hb2 : Below w.heap.size w w2 := by
    have h1 := HB1.out.alloc (by omega : w.heap.size ≤ W.heap.size) (.cells #[] 5)
    exact h1.grown hgrow (by simp; omega) (fun k hk => by have e : W.heap.size = k := Option.some.inj hk; omega)
  have hc2 : ∀ j, j < 4 → w2.cell? ⟨w.heap.size, j, none⟩ = some (.int .u8 (x.getD j 0)) := fun j hj => by
    have h1 := cell_later (below_one W (.cells #[] 5)) (HC.out j hj)
    have h2 : Below (w.heap.size + 1) (W.alloc (.cells #[] 5)) w2 := (Below.refl _ _).grown hgrow (by simp; omega) (fun k hk => by have e : W.heap.size = k := Option.some.inj hk; omega)
    rw [h2.cell (p := ⟨w.heap.size, j, none⟩) (by simp)]; exact h1
  rw [HL.out] at hown
  have HLa : Hid (Laid w z0 x A g len0 cap 0 w2) := Lib.hid ⟨hown, hc2, hb2⟩
  clear hown hgrow hb2 hc2 HC HB1 hs1
  rw [HL.out]
  generalize hN : w.heap.size = N at *
  have HN := Lib.hid hN
  clear hN
  go_wp2_with fail
  go_loopw [8, 9] (fun s i wr => ∃ k : Nat, k ≤ 4 ∧ A + k ≤ len0 ∧ i = .int .i64 k ∧ s = .bool (zeroB x k) ∧ Hid (Laid w z0 x A g len0 cap k wr)) (fun _ i _ => 4 - (intOf i).toNat)
  case atStart => exact ⟨0, by omega, by omega, rfl, rfl, HLa⟩
  case round =>
    obtain ⟨k, hk, hAk, rfl, rfl, hH⟩ := hrel
    by_cases hin : k < 4 ∧ A + k < len0
    · obtain ⟨hk4, hkn⟩ := hin
      have hown := hH.out.1
      have hzl : A + k < z0.length := by rw [HL.out]; exact hkn
      have hcy : wr.cell? ⟨g, A + k, none⟩ = some (.int .u8 (z0.getD (A + k) 0)) := by
        rw [hown.cellAt (A + k) (by omega), List.getElem?_map]
        have e := xorAt_get z0 x A k (A + k) hzl
        rw [if_neg (by omega)] at e
        have hl2 : A + k < (xorAt z0 x A k).length := by rw [xorAt_len]; exact hzl
        rw [← e, List.getElem?_eq_getElem hl2]
        simp [List.getD, hl2]
      have hcx := hH.out.2.1 k hk4
      rw [HN.out] at hcx
      have hfz := hown.frozenAt (A + k)
      have hY := byt_getD HB.out (A + k)
      have hX := byt_getD HX.out k
      have hSt := Lib.hid (fun w' (h : Laid w z0 x A g len0 cap k w') (V : Nat) (hV : V = (z0.getD (A + k) 0).toNat ^^^ (x.getD k 0).toNat) => h.step hV)
      have hZ : Hid (zeroB x (k + 1) = (zeroB x k && (x.getD k 0 == 0))) := Lib.hid rfl
      have hgN := Lib.hid (own_ge hown g rfl)
      clear hown hzl
      generalize z0.getD (A + k) 0 = y at *
      generalize hcx0 : x.getD k 0 = u at *
      have hcX := Lib.hid hcx0
      clear hcx0
      obtain ⟨Y, rfl⟩ := Int.eq_ofNat_of_zero_le hY.1
      obtain ⟨U, rfl⟩ := Int.eq_ofNat_of_zero_le hX.1
      have hxor := bits_xor_u8_nat Y U (by omega) (by omega)
      have hSt2 := Lib.hid (hSt.out wr hH.out (Y ^^^ U) (by simp)).drew
      clear hSt
      generalize Y ^^^ U = V at *
      have hin1 : (k : Int) < 4 := by omega
      have hin2 : (k : Int) < (len0 : Int) - (A : Int) := by omega
      have hto : ((A : Int) + (k : Int)).toNat = A + k := by omega
      have hp0 : 0 ≤ (A : Int) + (k : Int) := by omega
      have hp1 : (A : Int) + (k : Int) < (len0 : Int) := by omega
      have hw1 : IntKind.i64.wrap ((A : Int) + (k : Int)) = (A : Int) + (k : Int) := IntWalk.i64_in _ (by omega)
      go_wp2_with fail
      go_region
      clear hcy hfz hxor hto hp0 hp1 hw1 hin1 hin2 hcx hH
      generalize (wr.setCell ⟨g, A + k, none⟩ (.int .u8 (V : Int))).drew = w5 at *
      have hc5 := hSt2.out.2.1 k hk4
      rw [HN.out, hcX.out] at hc5
      generalize zeroB x k = S at *
      by_cases hU0 : U = 0
      · subst hU0
        have hc5 : w5.cell? ⟨N, k, none⟩ = some (.int .u8 0) := hc5
        have hZ2 : Hid (zeroB x (k + 1) = S) := Lib.hid (by rw [hZ.out]; cases S <;> rfl)
        clear hZ
        cases S
        all_goals
          go_wp2_with fail
          go_roundw
          case rel => exact ⟨k + 1, by omega, by omega, by go_num, by rw [hZ2.out], hSt2⟩
          case measure => simp [intOf]; omega
      · have hU1 : ((U : Int) == 0) = false := by simpa using hU0
        have hU2 : (U == 0) = false := by simpa using hU0
        have hZ2 : Hid (zeroB x (k + 1) = false) := Lib.hid (by rw [hZ.out, hU1]; cases S <;> rfl)
        clear hZ
        cases S
        all_goals
          go_wp2_with fail
          go_roundw
          case rel => exact ⟨k + 1, by omega, by omega, by go_num, by rw [hZ2.out], hSt2⟩
          case measure => simp [intOf]; omega
    · have HS1 := Lib.hid (psum_any _ z0 wr (HG.out.below hH.out.2.2) HB.out (by have := HL.out; omega) (HT.out.call hH.out.2.2))
      have HS2 := Lib.hid (psum_any _ _ wr (Ints.own (by have := hH.out.1; rwa [show len0 = (xorAt z0 x A k).length by rw [xorAt_len, HL.out]] at this)) (xorAt_byt HB.out HX.out A k) (by rw [xorAt_len]; have := HL.out; omega) (HT.out.call hH.out.2.2))
      rw [show (xorAt z0 x A k).length = len0 by rw [xorAt_len, HL.out]] at HS2
      have HAw := Lib.hid (awake6_any wr (HT.out.call hH.out.2.2))
      have heq := bursts_bool HB.out HX.out (A := A) (k := k) (by rw [HL.out]; omega) hk
      have HBw := Lib.hid hH.out.2.2
      clear hH HT HG HB HX HLa
      generalize moreN 0 z0 = m1 at *
      generalize moreN 0 (xorAt z0 x A k) = m2 at *
      generalize zeroB x k = S at *
      by_cases hk4 : k < 4
      · have hin1 : (k : Int) < 4 := by omega
        have hin2 : (len0 : Int) - (A : Int) ≤ (k : Int) := by omega
        have heq := Lib.hid heq
        clear hin
        go_wp2_with fail
        refine (HS1.out).mono ?_; rintro e w' ⟨rfl, rfl⟩
        go_wp2_with fail
        refine (HS2.out).mono ?_; rintro e w' ⟨rfl, rfl⟩
        have heq := heq.out
        go_wp2_with fail
        refine (HAw.out).mono ?_; rintro e w' ⟨rfl, hb⟩
        go_wp2_with fail
        go_ret
        exact ⟨rfl, below_then HBw.out hb⟩
      · have hin1 : ¬ (k : Int) < 4 := by omega
        have heq := Lib.hid heq
        clear hin
        go_wp2_with fail
        refine (HS1.out).mono ?_; rintro e w' ⟨rfl, rfl⟩
        go_wp2_with fail
        refine (HS2.out).mono ?_; rintro e w' ⟨rfl, rfl⟩
        have heq := heq.out
        go_wp2_with fail
        refine (HAw.out).mono ?_; rintro e w' ⟨rfl, hb⟩
        go_wp2_with fail
        go_ret
        exact ⟨rfl, below_then HBw.out hb⟩
theorem cells_arr4 : Tryd.prog.cellsOf 30 = 4 := by kernel_rfl
theorem cells_u8 : Tryd.prog.cellsOf 5 = 1 := by kernel_rfl
theorem list4 {α : Type} (l : List α) (h : (⟨l⟩ : Array α).size = 4) : ∃ a b c d, l = [a, b, c, d] := by
  match l, h with
  | [a, b, c, d], _ => exact ⟨a, b, c, d, rfl⟩
theorem byte_wf {x : Int} (h : (Lit.int .u8 x).wf = true) : 0 ≤ x ∧ x ≤ 255 := by simp [Lit.wf, IntKind.min, IntKind.max, IntKind.signed, IntKind.bits] at h; omega
theorem walk (a0 : Option Addr) (len0 cap0 : Nat) (z0 : List Int) (a1 : Int) (x0 x1 x2 x3 : Int) (w : World) (g0 : Given .u8 w (.slice a0 len0 cap0) z0) (m0 : len0 ≤ 9223372036854775807) (w1 : (Lit.int .i64 a1).wf = true)
    (xw0 : (Lit.int .u8 x0).wf = true) (xw1 : (Lit.int .u8 x1).wf = true) (xw2 : (Lit.int .u8 x2).wf = true) (xw3 : (Lit.int .u8 x3).wf = true) (hT : Fours w) :
    Calls Tryd.prog 5 #[.slice a0 len0 cap0, .int .i64 a1, .agg #[.int .u8 x0, .int .u8 x1, .int .u8 x2, .int .u8 x3]] w fun e w' => e = .returned (.bool true) ∧ Below w.heap.size w w' := by
  have hl := len_max g0
  by_cases h : 5000 < len0 ∨ a1 < 0 ∨ (len0 : Int) ≤ a1
  · exact walk_out a0 len0 cap0 a1 x0 x1 x2 x3 w h hT
  · obtain ⟨A, rfl⟩ := Int.eq_ofNat_of_zero_le (by omega : 0 ≤ a1)
    refine walk_mid a0 len0 cap0 A x0 x1 x2 x3 z0 w g0.1 g0.byt (fun y hy => ?_) hl (by omega) (by omega) hT
    simp only [List.mem_cons, List.not_mem_nil, or_false] at hy
    rcases hy with rfl | rfl | rfl | rfl
    · exact byte_wf xw0
    · exact byte_wf xw1
    · exact byte_wf xw2
    · exact byte_wf xw3
set_option maxRecDepth 100000 in
theorem lifted (os : Os) (started : os.Started) (H : Type) (enc : TypeId × Value → H) :
    ReturnsInHanded {} Tryd.checked os 5 .any (fun w args => (Rows.crcBurstsSpec.pre enc Tryd.prog Tryd.f5 [] false w args ∧ laidMetH Tryd.prog laid6 w) ∧ sizedMet enc Tryd.prog Tryd.f5 (OpenSpec.ofChange Rows.crcBurstsSpec) false w args)
      (Rows.crcBurstsSpec.post enc Tryd.prog Tryd.f5 false true false false) := by
  refine returnsInHanded_of_change_and (C := Tryd.checked) (X := fun w _ => laidMetH Tryd.prog laid6 w) (fun _ _ _ hh h => h.of_heap hh) own2 started (by kernel_rfl) Tryd.func5
    (ChangeSpec.witness_shaped (enc := enc) (C := Tryd.checked) (os := os) (X := fun w _ => laidMetH Tryd.prog laid6 w) false (World.doorLaid Tryd.prog 400 os) #[.slice none 0 0, .int .i64 0, .agg #[.int .u8 0, .int .u8 0, .int .u8 0, .int .u8 0]] 8 rfl (World.shaped_of_RefB (by kernel_rfl) (by kernel_rfl)) (by kernel_rfl) (by kernel_rfl) (by kernel_rfl) (door_met6 os _)) ?_
  intro W base args ds gs before hval0 hW _ _ hL _
  have hTab := fours_of hL
  have hval : ∀ (j : Nat) t v, Tryd.f5.params[j]? = some t → args[j]? = some v → Value.okWide Tryd.prog W .any base t v := hval0
  have hW' := hW
  obtain ⟨p, q, hA0, hV, rfl, hfz, hnd⟩ := hW
  have hA : DataW.TrodAll enc Tryd.prog W 0 (fun _ => true) true Tryd.f5.params.toList args.toList ds p := hA0
  rw [Tryd.params5] at hA hval
  obtain ⟨v0, vs0, d0, ds0, p0, q0, hargs, rfl, rfl, h0, r0⟩ := trodAll_cons hA
  obtain ⟨v1, vs1, d1, ds1, p1, q1, rfl, rfl, rfl, h1, r1⟩ := trodAll_cons r0
  obtain ⟨v2, vs2, d2, ds2, p2, q2, rfl, rfl, rfl, h2, r2⟩ := trodAll_cons r1
  obtain ⟨rfl, rfl, rfl⟩ := trodAll_nil r2
  obtain rfl : args = #[v0, v1, v2] := by cases args; simp_all
  obtain ⟨rfl, rfl⟩ := trodVars_none hV
  obtain ⟨a0, len0, cap0, rfl⟩ := okWide_slice Tryd.underlying22 (hval 0 22 v0 rfl rfl)
  have k0 := h0
  have lt0 : ∀ x ∈ p0, x.block < W.heap.size := by obtain ⟨m, hm⟩ := k0; exact DataW.trod_lt m _ _ _ hm
  obtain ⟨z0, w0, m0⟩ : ∃ zs, Given .u8 W (.slice a0 len0 cap0) zs ∧ len0 ≤ 9223372036854775807 := by
    obtain ⟨fuel, hf⟩ := h0
    rcases open_ints Tryd.underlying22 Tryd.underlying5 (by kernel_rfl) hf with ⟨hcs, _⟩ | ⟨x, l, c, zs, hcs, _, hl, hm, hz, _, hcell, hwz⟩
    · simp [Value.cells] at hcs
      obtain ⟨rfl, rfl, rfl⟩ := hcs
      exact ⟨[], given_nil, by decide⟩
    · simp [Value.cells] at hcs
      obtain ⟨rfl, rfl, rfl⟩ := hcs
      exact ⟨_, given_row hl (by simpa using hz) hcell hwz, by unfold maxLen at hm; omega⟩
  obtain ⟨a1, rfl, rfl, rfl, w1⟩ := open_int Tryd.underlying3 (hval 1 3 v1 rfl rfl) h1
  obtain ⟨cs2, rfl, hsz2, _⟩ : ∃ cs, v2 = .agg cs ∧ cs.size = Tryd.prog.cellsOf 30 ∧ Row.okWide Tryd.prog W .any base 30 cs := by
    have := hval 2 30 v2 rfl rfl
    simpa [Value.okWide, Tryd.underlying30] using this
  rw [cells_arr4] at hsz2
  obtain ⟨l2⟩ := cs2
  obtain ⟨c0, c1, c2, c3, rfl⟩ := list4 l2 hsz2
  obtain ⟨fuel2, hf2⟩ := h2
  obtain ⟨y0, y1, y2, y3, my, hx, hy0, hy1, hy2, hy3⟩ := trod_array4 Tryd.underlying30 cells_u8 hf2
  obtain ⟨x0, e0, rfl, xw0⟩ := DataW.trod_int Tryd.underlying5 hy0
  obtain ⟨x1, e1, rfl, xw1⟩ := DataW.trod_int Tryd.underlying5 hy1
  obtain ⟨x2, e2, rfl, xw2⟩ := DataW.trod_int Tryd.underlying5 hy2
  obtain ⟨x3, e3, rfl, xw3⟩ := DataW.trod_int Tryd.underlying5 hy3
  simp at e0 e1 e2 e3
  subst e0 e1 e2 e3
  simp only [Prod.mk.injEq] at hx
  obtain ⟨rfl, rfl⟩ := hx
  have arrayReads : ∀ (W' : World) (sp : Nat → Bool), DataW.Trod enc Tryd.prog W' 0 sp true 30 (.agg #[.int .u8 x0, .int .u8 x1, .int .u8 x2, .int .u8 x3]) (.agg [.lit (.int .u8 x0), .lit (.int .u8 x1), .lit (.int .u8 x2), .lit (.int .u8 x3)]) [] := fun W' sp =>
    ⟨2, by simp [DataW.trod, Value.cells, Tryd.underlying30, Tryd.underlying5, cells_arr4, cells_u8, xw0, xw1, xw2, xw3, show List.range 4 = [0, 1, 2, 3] from rfl]⟩
  clear hA0 hval0
  refine (walk a0 len0 cap0 z0 a1 x0 x1 x2 x3 W w0 m0 w1 xw0 xw1 xw2 xw3 hTab).mono fun e W' ⟨he, bel⟩ => ?_
  subst he
  exact ⟨_, rfl, _, _, _, [], _, [], hW', trodAll_mk1 (shut_bool Tryd.underlying4 _), (trodAll_cons_mk (Below.trod laidOut2 (by kernel_rfl) (of_decide_eq_true (by kernel_rfl)) k0 bel lt0) (trodAll_cons_mk (shut_int Tryd.underlying3 w1) (trodAll_cons_mk (arrayReads _ _) trodAll_mk0))), rfl, bel.frame _, fun h => by cases h⟩

theorem over : Rows.crcBurstsRow.holds Tryd.pinned (OpenSpec.ofChange Rows.crcBurstsSpec) :=
  OpenClaim.holds_of_wide 5 Tryd.f5 rfl rfl rfl rfl rfl rfl rfl ⟨rfl, rfl, rfl, rfl, rfl⟩ rfl rfl rfl rfl rfl (by kernel_rfl) Tryd.func5 (by kernel_rfl)
    (of_decide_eq_true (by kernel_rfl)) (by unfold Func.isWrapper; first | (rw [if_pos (by decide +kernel)]; kernel_rfl) | (rw [if_neg (by decide +kernel)]; exact ⟨rfl, rfl⟩))
    (fun os started H enc _ => lifted os started H enc)
theorem row_holds : Rows.CrcBurstsSaid := over
end Go.Proofs.YtagogjdibbckkaaDoor.crcBursts
namespace Go.Proofs.YtagogjdibbckkaaDoor
/-- The statement: the tied card. -/
theorem crcBursts_holds : Rows.CrcBurstsCardSaid :=
  Claim7.holds_tied_plain_at .later [] [.data] true _ false
    crcBursts.row_holds (fun _ h => by cases h) (by kernel_rfl) (fun _ h => by cases h) crcBursts_row_tie rfl ⟨rfl, rfl⟩ (by kernel_rfl) rfl
    (fun f fn hf hfn => by
      obtain rfl : f = 5 := Option.some.inj ((show Tryd.prog.funcNamed "bushel/bushellaw06.CrcBursts" = some 5 by kernel_rfl).symm.trans hf) |>.symm
      obtain rfl : fn = Tryd.f5 := (Option.some.inj (Tryd.func5.symm.trans hfn)).symm
      exact ⟨by kernel_rfl, fun j t ht => by
        rw [Tryd.params5] at ht
        have hm : t ∈ [22, 3, 30] := by simpa using Array.mem_of_getElem? ht
        have hall : ([22, 3, 30].all fun u => !Tryd.prog.wantsStandIn u) = true := by kernel_rfl
        exact (show Tryd.prog.wantsStandIn t = false by simpa using List.all_eq_true.1 hall t hm)⟩)
    (by kernel_rfl)
#print axioms crcBursts_holds
end Go.Proofs.YtagogjdibbckkaaDoor
