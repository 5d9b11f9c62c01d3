/- The reference's GetT; Less of both sides. -/
import Derived.Test.YtgiekjckfgdfnaaCodei
import Derived.Test.YtgiekjckfgdfnaaCodee
import Derived.Lib.Bytealg
namespace Go.Proofs.Ytgiekjckfgdfnaa
set_option maxRecDepth 100000
open Go.RowKit
set_option linter.unusedVariables false
theorem tail_cells {w : World} {h : Int} {t : List Int} {b off cap : Nat} (hv : Ints .u8 w (.slice (some ⟨b, off, none⟩) (t.length + 1) cap) (h :: t)) : ∀ i, i < t.length → w.cell? ⟨b, off + (i + 1), none⟩ = some (.int .u8 (t.getD i 0)) := fun i hi => by
  obtain ⟨a, c, e, hcc, hh⟩ := hv
  rcases hh with h0 | ⟨b', off', e', h1, hc⟩
  · cases h0
  · cases e'; cases e
    have := hc (i + 1) (by simp; omega)
    rw [List.getD_cons_succ] at this
    exact this
set_option maxRecDepth 100000
open Go.RowKit
set_option linter.unusedVariables false
def pairF (r : Int × Nat) : Value := .tuple #[.int .u64 r.1, .int .i64 (r.2 : Nat)]
set_option maxRecDepth 100000
open Go.RowKit
set_option linter.unusedVariables false
/-- What is turned about, read as an unsigned number. -/
def cvt (neg : Bool) (c0 : Int) (T : List Int) : Int × Nat × Nat :=
  if c0 = 8 ∧ 0 < T.length ∧ 127 < T.getD 0 0 then (0, 0, 6) else if (getU (c0 :: T)).2.2 ≠ 0 then (0, 0, (getU (c0 :: T)).2.2) else (if neg then -1 - (getU (c0 :: T)).1 else (getU (c0 :: T)).1, (getU (c0 :: T)).2.1, 0)
theorem fill_flip (t : List Int) : ∀ n, n ≤ t.length → fillN (t.map fun x => 255 - x) 0 n = 256 ^ n - 1 - fillN t 0 n
  | 0, _ => by simp [fillN]
  | n + 1, h => by
    have e : (t.map fun x => 255 - x).getD n 0 = 255 - t.getD n 0 := by simp [List.getD, List.getElem?_eq_getElem (show n < t.length by omega)]
    rw [fillN, fillN, fill_flip t n (by omega), e, Int.pow_succ]; omega
theorem getU_size {c : Int} {T : List Int} (hT : Bt T) (h0 : 0 ≤ c) (hb : ¬ (c = 8 ∧ 0 < T.length ∧ 127 < T.getD 0 0)) (he : (getU (c :: T)).2.2 = 0) : 0 ≤ (getU (c :: T)).1 ∧ (getU (c :: T)).1 ≤ 9223372036854775807 := by
  rw [getU_cons] at he ⊢
  split at he
  · cases he
  · rename_i h1
    rw [if_neg h1]
    split at he
    · cases he
    · rename_i h2
      rw [if_neg h2]
      obtain ⟨n, rfl⟩ := Int.eq_ofNat_of_zero_le h0
      simp only [Int.toNat_natCast] at h2 ⊢
      have hr := fill_range hT (f := 0) (by decide) (by decide) n
      by_cases h8 : n = 8
      · subst h8
        have h3 : fillN T 0 8 = T.getD 0 0 * 256 ^ 7 + fillN T.tail 0 7 := fill_head T 0 7
        have hr7 := fill_range hT.tl (f := 0) (by decide) (by decide) 7
        have e7 : (256 : Int) ^ 7 = 72057594037927936 := by decide
        have h4 := hT.getD (d := 0) (by decide) (by decide) 0
        rw [e7] at h3 hr7
        have : T.getD 0 0 ≤ 127 := by omega
        omega
      · have : (256 : Int) ^ n ≤ 256 ^ 7 := by
          have : 256 ^ n ≤ 256 ^ 7 := Nat.pow_le_pow_right (by decide) (by omega)
          exact_mod_cast this
        have e7 : (256 : Int) ^ 7 = 72057594037927936 := by decide
        omega
theorem getD_both {t : List Int} (h : 0 < t.length) (d : Int) : t.getD 0 d = t.getD 0 0 := by simp [List.getD, List.getElem?_eq_getElem h]
theorem map_head {t : List Int} (h : 0 < t.length) : (t.map fun x => 255 - x).getD 0 0 = 255 - t.getD 0 0 := by simp [List.getD, List.getElem?_eq_getElem h]
theorem bad_pos {h : Int} {t : List Int} {n : Nat} (h9 : 9 ≤ h) : badI h t n ↔ (8 < n ∨ (0 < n ∧ 0 < t.length ∧ (t.getD 0 0 = 0 ∨ (n = 8 ∧ 127 < t.getD 0 0)))) := by unfold badI; rw [if_neg (by omega)]
theorem bad_neg {h : Int} {t : List Int} {n : Nat} (h9 : h < 9) : badI h t n ↔ (8 < n ∨ (0 < n ∧ 0 < t.length ∧ (t.getD 0 0 = 255 ∨ (n = 8 ∧ t.getD 0 0 < 128)))) := by unfold badI; rw [if_pos h9]
theorem cvt_pos {h : Int} {t : List Int} (h9 : 9 ≤ h) : getI (h :: t) = cvt false (h - 9) t := by
  have hs : sizeI h = (h - 9).toNat := by unfold sizeI; rw [if_neg (by omega)]
  rw [getI_cons, hs]
  unfold cvt
  rw [getU_cons]
  obtain ⟨n, hn⟩ := Int.eq_ofNat_of_zero_le (show 0 ≤ h - 9 by omega)
  rw [hn]
  simp only [Int.toNat_natCast, show ¬ h < 9 by omega, if_false, Bool.false_eq_true]
  by_cases hl : 0 < t.length
  · have e1 := getD_both hl 1
    rw [e1]
    by_cases c1 : (n : Int) = 8 ∧ 0 < t.length ∧ 127 < t.getD 0 0
    · rw [if_pos c1, if_pos ((bad_pos h9).2 (by omega))]
    · rw [if_neg c1]
      by_cases c2 : 8 < (n : Int) ∨ 0 < (n : Int) ∧ t.getD 0 0 = 0
      · rw [if_pos c2, if_pos ((bad_pos h9).2 (by omega))]; rfl
      · rw [if_neg c2, if_neg (fun hh => absurd ((bad_pos h9).1 hh) (by omega))]
        split <;> rfl
  · have ht : t = [] := List.length_eq_zero_iff.1 (by omega)
    subst ht
    rw [if_neg (show ¬ ((n : Int) = 8 ∧ 0 < ([] : List Int).length ∧ 127 < ([] : List Int).getD 0 0) by simp)]
    by_cases c2 : 8 < (n : Int) ∨ 0 < (n : Int) ∧ ([] : List Int).getD 0 1 = 0
    · have c3 : 8 < n := by simp at c2; omega
      rw [if_pos c2, if_pos ((bad_pos h9).2 (.inl c3))]; rfl
    · have c3 : ¬ 8 < n := by simp at c2; omega
      rw [if_neg c2, if_neg (fun hh => absurd ((bad_pos h9).1 hh) (by simp; omega))]
      split <;> rfl
theorem cvt_neg {h : Int} {t : List Int} (h0 : 0 ≤ h) (h9 : h < 9) : getI (h :: t) = cvt true (8 - h) (t.map fun x => 255 - x) := by
  have hs : sizeI h = (8 - h).toNat := by unfold sizeI; rw [if_pos (by omega)]
  rw [getI_cons, hs]
  unfold cvt
  rw [getU_cons]
  obtain ⟨n, hn⟩ := Int.eq_ofNat_of_zero_le (show 0 ≤ 8 - h by omega)
  rw [hn]
  simp only [Int.toNat_natCast, h9, if_true, List.length_map]
  by_cases hl : 0 < t.length
  · have e1 := getD_both (t := t.map fun x => 255 - x) (by simpa using hl) 1
    rw [e1, map_head hl]
    by_cases c1 : (n : Int) = 8 ∧ 0 < t.length ∧ 127 < 255 - t.getD 0 0
    · rw [if_pos c1, if_pos ((bad_neg h9).2 (by omega))]
    · rw [if_neg c1]
      by_cases c2 : 8 < (n : Int) ∨ 0 < (n : Int) ∧ 255 - t.getD 0 0 = 0
      · rw [if_pos c2, if_pos ((bad_neg h9).2 (by omega))]; rfl
      · rw [if_neg c2, if_neg (fun hh => absurd ((bad_neg h9).1 hh) (by omega))]
        by_cases c3 : t.length < n
        · rw [if_pos c3, if_pos c3]; rfl
        · rw [if_neg c3, if_neg c3, fill_flip t n (by omega)]
          simp only [ne_eq, not_true_eq_false, if_false]
          rw [show fillN t 0 n - 256 ^ n = -1 - (256 ^ n - 1 - fillN t 0 n) by omega]
  · have ht : t = [] := List.length_eq_zero_iff.1 (by omega)
    subst ht
    rw [if_neg (show ¬ ((n : Int) = 8 ∧ 0 < ([] : List Int).length ∧ 127 < (([] : List Int).map fun x => 255 - x).getD 0 0) by simp)]
    rw [if_neg (show ¬ (8 < (n : Int) ∨ 0 < (n : Int) ∧ (([] : List Int).map fun x => 255 - x).getD 0 1 = 0) by simp; omega), if_neg (fun hh => absurd ((bad_neg h9).1 hh) (by simp; omega))]
    by_cases c3 : ([] : List Int).length < n
    · rw [if_pos c3, if_pos c3]; rfl
    · have : n = 0 := by simp at c3; omega
      subst this
      simp [fillN]
set_option maxRecDepth 100000
open Go.RowKit
set_option linter.unusedVariables false
theorem strB_size (l : List Int) : (strB l).size = l.length := by simp [strB, ByteArray.size]
theorem strB_append (a b : List Int) : strB (a ++ b) = strB a ++ strB b := by
  apply ByteArray.ext
  simp [strB]
theorem ints_one {w : World} {b : List Int} {bb off cap : Nat} (hv : Ints .u8 w (.slice (some ⟨bb, off, none⟩) b.length cap) b) {k : Nat} (hk : k < b.length) (c2 : Nat) (hc : 1 ≤ c2) : Ints .u8 w (.slice (some ⟨bb, off + k, none⟩) 1 c2) [b.getD k 0] := by
  obtain ⟨bb', off', e, hb, hcell⟩ := hv.cell hk
  cases e
  refine ⟨_, _, rfl, hc, .inr ⟨bb, off + k, rfl, hb, fun i hi => ?_⟩⟩
  obtain rfl : i = 0 := by simpa using hi
  simpa using hcell
theorem lessL_cons (a b : Int) (x y : List Int) : lessL (a :: x) (b :: y) = if a < b then true else if b < a then false else lessL x y := by rw [lessL]
set_option maxHeartbeats 8000000 in
theorem rless_bytes (u v : Value) (a b : List Int) (w : World) (hu : Ints .u8 w u a) (hv : Ints .u8 w v b) (la : a.length ≤ 1099511627775) (lb : b.length ≤ 1099511627775) :
    Calls Try.prog 13 #[u, v] w fun e w' => e = .returned (.bool (lessL a b)) ∧ Drawn w w' := by
  have HU := Lib.hid hu
  have HV := Lib.hid hv
  obtain ⟨pa, ca, rfl, hca, -⟩ := hu
  obtain ⟨pb, cb, rfl, hcb, -⟩ := hv
  go_enter Try.func13, Try.ntmps13
  go_wp2_with fail
  go_loopw [5] (fun iv wr => ∃ k : Nat, k ≤ a.length ∧ k ≤ b.length ∧ iv = .int .i64 k ∧ Hid (lessL a b = lessL (a.drop k) (b.drop k)) ∧ Hid (Drawn w wr)) (fun iv _ => a.length - (intOf iv).toNat)
  case atStart => exact ⟨0, Nat.zero_le _, Nat.zero_le _, rfl, Lib.hid rfl, Lib.hid (Drawn.refl w)⟩
  case round =>
    obtain ⟨k, hk, hk2, rfl, hS, hD⟩ := hrel
    by_cases h1 : k < a.length
    · have i1 : (k : Int) < (a.length : Int) := by omega
      by_cases h2 : k < b.length
      · have i2 : (k : Int) < (b.length : Int) := by omega
        obtain ⟨b1, o1, rfl, -, hc1⟩ := (HU.out.below hD.out.below).cell h1
        obtain ⟨b2, o2, rfl, -, hc2⟩ := (HV.out.below hD.out.below).cell h2
        have hE := hS.out
        rw [drop_one h1, drop_one h2, lessL_cons] at hE
        generalize a.getD k 0 = x at *
        generalize b.getD k 0 = y at *
        rcases Int.lt_trichotomy x y with h | h | h
        · rw [if_pos h] at hE
          have HE := Lib.hid hE
          have i3 : (x == y) = false := by simp; omega
          clear hE
          go_wp2_with fail
          go_region
          all_goals
            go_wp2_with fail
            go_region
            all_goals
              go_wp2_with fail
              go_ret
              exact ⟨by rw [HE.out]; simp [h], Drawn.one (Drawn.one hD.out)⟩
        · subst h
          rw [if_neg (by omega), if_neg (by omega)] at hE
          have HE := Lib.hid hE
          clear hE
          go_wp2_with fail
          go_region
          all_goals
            go_wp2_with fail
            refine ⟨⟨k + 1, by omega, by omega, by go_num, HE, Lib.hid (Drawn.one hD.out)⟩, by simp [intOf] <;> omega⟩
        · rw [if_neg (by omega), if_pos h] at hE
          have HE := Lib.hid hE
          have i3 : (x == y) = false := by simp; omega
          clear hE
          go_wp2_with fail
          go_region
          all_goals
            go_wp2_with fail
            go_region
            all_goals
              go_wp2_with fail
              go_ret
              exact ⟨by rw [HE.out]; simp; omega, Drawn.one (Drawn.one hD.out)⟩
      · obtain rfl : k = b.length := by omega
        have i2 : ¬ ((b.length : Nat) : Int) < (b.length : Nat) := by omega
        have hE := hS.out
        rw [List.drop_of_length_le (Nat.le_refl b.length)] at hE
        have HE := Lib.hid (show lessL a b = false by rw [hE]; unfold lessL; rfl)
        have i3 : ¬ (a.length : Int) < (b.length : Int) := by omega
        clear hE hS
        go_wp2_with fail
        go_ret
        exact ⟨by rw [HE.out]; simp, hD.out⟩
    · obtain rfl : k = a.length := by omega
      have i1 : ¬ ((a.length : Nat) : Int) < (a.length : Nat) := by omega
      have hE := hS.out
      rw [List.drop_of_length_le (Nat.le_refl a.length)] at hE
      have HE := Lib.hid (show lessL a b = decide (a.length < b.length) by
        rw [hE]
        by_cases h2 : a.length < b.length
        · rw [drop_one h2]; simp [lessL]; omega
        · rw [List.drop_of_length_le (by omega)]; simp [lessL]; omega)
      clear hE hS
      go_wp2_with fail
      go_ret
      exact ⟨by rw [HE.out]; rfl, hD.out⟩
end Go.Proofs.Ytgiekjckfgdfnaa
