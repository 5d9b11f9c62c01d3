/- The reference's GetI. -/
import Derived.Test.YtdlebcjkokabjaaCodee
import Derived.Test.YtdlebcjkokabjaaCodek
namespace Go.Proofs.Ytdlebcjkokabjaa
set_option maxRecDepth 100000
open Go.RowKit
set_option linter.unusedVariables false
/-- What is turned about, read as an unsigned number. -/
def cvt (neg : Bool) (c0 : Int) (T : List Int) : Int × Nat × Nat :=
  if c0 = 8 ∧ 0 < T.length ∧ 127 < T.getD 0 0 then (0, 0, 6) else if (getU (c0 :: T)).2.2 ≠ 0 then (0, 0, (getU (c0 :: T)).2.2) else (if neg then -1 - (getU (c0 :: T)).1 else (getU (c0 :: T)).1, (getU (c0 :: T)).2.1, 0)
theorem fill_flip (t : List Int) : ∀ n, n ≤ t.length → fillN (t.map fun x => 255 - x) 0 n = 256 ^ n - 1 - fillN t 0 n
  | 0, _ => by simp [fillN]
  | n + 1, h => by
    have e : (t.map fun x => 255 - x).getD n 0 = 255 - t.getD n 0 := by simp [List.getD, List.getElem?_eq_getElem (show n < t.length by omega)]
    rw [fillN, fillN, fill_flip t n (by omega), e, Int.pow_succ]; omega
theorem getU_size {c : Int} {T : List Int} (hT : Bt T) (h0 : 0 ≤ c) (hb : ¬ (c = 8 ∧ 0 < T.length ∧ 127 < T.getD 0 0)) (he : (getU (c :: T)).2.2 = 0) : 0 ≤ (getU (c :: T)).1 ∧ (getU (c :: T)).1 ≤ 9223372036854775807 := by
  rw [getU_cons] at he ⊢
  split at he
  · cases he
  · rename_i h1
    rw [if_neg h1]
    split at he
    · cases he
    · rename_i h2
      rw [if_neg h2]
      obtain ⟨n, rfl⟩ := Int.eq_ofNat_of_zero_le h0
      simp only [Int.toNat_natCast] at h2 ⊢
      have hr := fill_range hT (f := 0) (by decide) (by decide) n
      by_cases h8 : n = 8
      · subst h8
        have h3 : fillN T 0 8 = T.getD 0 0 * 256 ^ 7 + fillN T.tail 0 7 := fill_head T 0 7
        have hr7 := fill_range hT.tl (f := 0) (by decide) (by decide) 7
        have e7 : (256 : Int) ^ 7 = 72057594037927936 := by decide
        have h4 := hT.getD (d := 0) (by decide) (by decide) 0
        rw [e7] at h3 hr7
        have : T.getD 0 0 ≤ 127 := by omega
        omega
      · have : (256 : Int) ^ n ≤ 256 ^ 7 := by
          have : 256 ^ n ≤ 256 ^ 7 := Nat.pow_le_pow_right (by decide) (by omega)
          exact_mod_cast this
        have e7 : (256 : Int) ^ 7 = 72057594037927936 := by decide
        omega
theorem getD_both {t : List Int} (h : 0 < t.length) (d : Int) : t.getD 0 d = t.getD 0 0 := by simp [List.getD, List.getElem?_eq_getElem h]
theorem map_head {t : List Int} (h : 0 < t.length) : (t.map fun x => 255 - x).getD 0 0 = 255 - t.getD 0 0 := by simp [List.getD, List.getElem?_eq_getElem h]
theorem bad_pos {h : Int} {t : List Int} {n : Nat} (h9 : 9 ≤ h) : badI h t n ↔ (8 < n ∨ (0 < n ∧ 0 < t.length ∧ (t.getD 0 0 = 0 ∨ (n = 8 ∧ 127 < t.getD 0 0)))) := by unfold badI; rw [if_neg (by omega)]
theorem bad_neg {h : Int} {t : List Int} {n : Nat} (h9 : h < 9) : badI h t n ↔ (8 < n ∨ (0 < n ∧ 0 < t.length ∧ (t.getD 0 0 = 255 ∨ (n = 8 ∧ t.getD 0 0 < 128)))) := by unfold badI; rw [if_pos h9]
theorem cvt_pos {h : Int} {t : List Int} (h9 : 9 ≤ h) : getI (h :: t) = cvt false (h - 9) t := by
  have hs : sizeI h = (h - 9).toNat := by unfold sizeI; rw [if_neg (by omega)]
  rw [getI_cons, hs]
  unfold cvt
  rw [getU_cons]
  obtain ⟨n, hn⟩ := Int.eq_ofNat_of_zero_le (show 0 ≤ h - 9 by omega)
  rw [hn]
  simp only [Int.toNat_natCast, show ¬ h < 9 by omega, if_false, Bool.false_eq_true]
  by_cases hl : 0 < t.length
  · have e1 := getD_both hl 1
    rw [e1]
    by_cases c1 : (n : Int) = 8 ∧ 0 < t.length ∧ 127 < t.getD 0 0
    · rw [if_pos c1, if_pos ((bad_pos h9).2 (by omega))]
    · rw [if_neg c1]
      by_cases c2 : 8 < (n : Int) ∨ 0 < (n : Int) ∧ t.getD 0 0 = 0
      · rw [if_pos c2, if_pos ((bad_pos h9).2 (by omega))]; rfl
      · rw [if_neg c2, if_neg (fun hh => absurd ((bad_pos h9).1 hh) (by omega))]
        split <;> rfl
  · have ht : t = [] := List.length_eq_zero_iff.1 (by omega)
    subst ht
    rw [if_neg (show ¬ ((n : Int) = 8 ∧ 0 < ([] : List Int).length ∧ 127 < ([] : List Int).getD 0 0) by simp)]
    by_cases c2 : 8 < (n : Int) ∨ 0 < (n : Int) ∧ ([] : List Int).getD 0 1 = 0
    · have c3 : 8 < n := by simp at c2; omega
      rw [if_pos c2, if_pos ((bad_pos h9).2 (.inl c3))]; rfl
    · have c3 : ¬ 8 < n := by simp at c2; omega
      rw [if_neg c2, if_neg (fun hh => absurd ((bad_pos h9).1 hh) (by simp; omega))]
      split <;> rfl
theorem cvt_neg {h : Int} {t : List Int} (h0 : 0 ≤ h) (h9 : h < 9) : getI (h :: t) = cvt true (8 - h) (t.map fun x => 255 - x) := by
  have hs : sizeI h = (8 - h).toNat := by unfold sizeI; rw [if_pos (by omega)]
  rw [getI_cons, hs]
  unfold cvt
  rw [getU_cons]
  obtain ⟨n, hn⟩ := Int.eq_ofNat_of_zero_le (show 0 ≤ 8 - h by omega)
  rw [hn]
  simp only [Int.toNat_natCast, h9, if_true, List.length_map]
  by_cases hl : 0 < t.length
  · have e1 := getD_both (t := t.map fun x => 255 - x) (by simpa using hl) 1
    rw [e1, map_head hl]
    by_cases c1 : (n : Int) = 8 ∧ 0 < t.length ∧ 127 < 255 - t.getD 0 0
    · rw [if_pos c1, if_pos ((bad_neg h9).2 (by omega))]
    · rw [if_neg c1]
      by_cases c2 : 8 < (n : Int) ∨ 0 < (n : Int) ∧ 255 - t.getD 0 0 = 0
      · rw [if_pos c2, if_pos ((bad_neg h9).2 (by omega))]; rfl
      · rw [if_neg c2, if_neg (fun hh => absurd ((bad_neg h9).1 hh) (by omega))]
        by_cases c3 : t.length < n
        · rw [if_pos c3, if_pos c3]; rfl
        · rw [if_neg c3, if_neg c3, fill_flip t n (by omega)]
          simp only [ne_eq, not_true_eq_false, if_false]
          rw [show fillN t 0 n - 256 ^ n = -1 - (256 ^ n - 1 - fillN t 0 n) by omega]
  · have ht : t = [] := List.length_eq_zero_iff.1 (by omega)
    subst ht
    rw [if_neg (show ¬ ((n : Int) = 8 ∧ 0 < ([] : List Int).length ∧ 127 < (([] : List Int).map fun x => 255 - x).getD 0 0) by simp)]
    rw [if_neg (show ¬ (8 < (n : Int) ∨ 0 < (n : Int) ∧ (([] : List Int).map fun x => 255 - x).getD 0 1 = 0) by simp; omega), if_neg (fun hh => absurd ((bad_neg h9).1 hh) (by simp; omega))]
    by_cases c3 : ([] : List Int).length < n
    · rw [if_pos c3, if_pos c3]; rfl
    · have : n = 0 := by simp at c3; omega
      subst this
      simp [fillN]
set_option maxHeartbeats 16000000 in
theorem rgetI_pos (v : Value) (h : Int) (t : List Int) (w : World) (hv : Ints .u8 w v (h :: t)) (hb : Bt (h :: t)) (hl : t.length ≤ 100000) (h9 : 9 ≤ h) :
    Calls Try.prog 97 #[v] w fun e w' => e = .returned (tripI (getI (h :: t))) ∧ Below w.heap.size w w' := by
  have HV := Lib.hid hv
  have HBt := Lib.hid hb
  obtain ⟨i0, hi, hz0, hz1, hz2⟩ := info_parts Try.infoU8
  obtain ⟨bb, off, cap, rfl, hcap, hbl, hcell⟩ := ints_head hv
  have HLt := Lib.hid hl
  have i00 : ((t.length : Int) + 1 == 0) = false := by simp; omega
  have hu : IntKind.u8.wrap (h - 9) = h - 9 := by have := hb.head; rw [IntKind.wrap_u8]; omega
  have HBC := Lib.hid (show Bt ((h - 9) :: t) from Bt.cons (by omega) (by have := hb.head; omega) hb.tail)
  have i1 : ¬ h < 9 := by omega
  have hq : ∃ q, getU ((h - 9) :: t) = q := ⟨_, rfl⟩
  obtain ⟨⟨x, nr, er⟩, hq⟩ := hq
  have HQq := Lib.hid hq
  obtain ⟨T0, hT0⟩ : ∃ z, t.getD 0 0 = z := ⟨_, rfl⟩
  have HT0 := Lib.hid hT0
  have HCv := (show ¬ (h - 9 = 8 ∧ 0 < t.length ∧ 127 < T0) → getI (h :: t) = if er ≠ 0 then (0, 0, er) else (x, nr, 0) from fun hn => by
    rw [cvt_pos h9]; unfold cvt; rw [hT0, if_neg hn, hq]; rfl)
  have HSz := (show ¬ (h - 9 = 8 ∧ 0 < t.length ∧ 127 < T0) → er = 0 → 0 ≤ x ∧ x ≤ 9223372036854775807 from fun hn he => by
    have := getU_size (c := h - 9) HBC.out.tail HBC.out.head.1 (by rw [hT0]; exact hn) (by rw [hq]; exact he)
    rw [hq] at this; exact this)
  have HG2 := (show h - 9 = 8 → 0 < t.length → 127 < T0 → getI (h :: t) = (0, 0, 6) from fun a b c => by
    rw [cvt_pos h9]; unfold cvt; rw [if_pos ⟨a, b, by rw [hT0]; exact c⟩])
  clear hq hT0 hb hv
  by_cases h8 : h - 9 = 8
  · have h8' : (h - 9 == 8) = true := by simpa using h8
    by_cases hl0 : 0 < t.length
    · have l1 : (1 : Int) < (t.length : Int) + 1 := by omega
      by_cases hT : 127 < T0
      · have HE := Lib.hid (HG2 h8 hl0 hT)
        clear HCv HSz HG2
        go_enter Try.func97, Try.ntmps97
        go_wp2_with (at_builtin; refine wpList_append_want _ (by rfl) _ _ 42 rfl w.heap.size 5 i0 (.int .u8 0) 1 Try.underlying42 hi hz0 hz1 hz2 rfl .u8 _ _ [] (h :: t) rfl rfl (World.ownsRow_lit w #[] 0 (Nat.le_refl _) (by unfold maxLen; omega) rfl) (HV.out.below (below_one w _)) (by have := HLt.out; unfold maxLen; simp; omega) (by have := HLt.out; simp; omega) (by simp) ?_; intro v' w1 hown hgrow; rw [List.nil_append] at hown; have HQ := Lib.hid (And.intro hown (lit_grown hgrow)); obtain ⟨g, gc, rfl, hg, hg2⟩ := own_form hown (by simp); clear hown hgrow; have hcell1 := (HQ.out.2.cell (p := ⟨bb, off, none⟩) hbl).trans hcell; have G0 := own_get HQ.out.1 (j := 0) (by simp); rw [List.getD_cons_zero] at G0; obtain ⟨G0, F0⟩ := G0; simp only [List.length_cons] at HQ ⊢; have hs := own_set (B := w.heap.size) (g := g) (cap := gc) (n := t.length + 1) (l := h :: t) HQ.out.1 0 (h - 9); rw [List.set_cons_zero] at hs; have HP := Lib.hid (And.intro hs.1 (HQ.out.2.grown hs.2 HQ.out.2.size (fun k hk => by cases hk; exact hg))); clear hs; have HU := Lib.hid (rgetU_any _ _ _ (Ints.own HP.out.1) HBC.out (by simp; have := HLt.out; omega)); rw [HQq.out] at HU; rw [h8] at HP HU ; have G1 := (own_get HQ.out.1 (j := 1) (by simp; omega)).1; rw [List.getD_cons_succ, HT0.out] at G1)
        exact bodyPost_ret (v := .tuple #[.int .i64 0, .int .i64 0, .int .i64 6]) (by simp [results, Try.results97, go_sem]) rfl ⟨by rw [HE.out]; rfl, HP.out.2⟩
      · have hbad : ¬ (h - 9 = 8 ∧ 0 < t.length ∧ 127 < T0) := by omega
        have HCv := Lib.hid (HCv hbad)
        have HSz := Lib.hid (HSz hbad)
        clear HG2 hbad
        go_enter Try.func97, Try.ntmps97
        go_wp2_with (at_builtin; refine wpList_append_want _ (by rfl) _ _ 42 rfl w.heap.size 5 i0 (.int .u8 0) 1 Try.underlying42 hi hz0 hz1 hz2 rfl .u8 _ _ [] (h :: t) rfl rfl (World.ownsRow_lit w #[] 0 (Nat.le_refl _) (by unfold maxLen; omega) rfl) (HV.out.below (below_one w _)) (by have := HLt.out; unfold maxLen; simp; omega) (by have := HLt.out; simp; omega) (by simp) ?_; intro v' w1 hown hgrow; rw [List.nil_append] at hown; have HQ := Lib.hid (And.intro hown (lit_grown hgrow)); obtain ⟨g, gc, rfl, hg, hg2⟩ := own_form hown (by simp); clear hown hgrow; have hcell1 := (HQ.out.2.cell (p := ⟨bb, off, none⟩) hbl).trans hcell; have G0 := own_get HQ.out.1 (j := 0) (by simp); rw [List.getD_cons_zero] at G0; obtain ⟨G0, F0⟩ := G0; simp only [List.length_cons] at HQ ⊢; have hs := own_set (B := w.heap.size) (g := g) (cap := gc) (n := t.length + 1) (l := h :: t) HQ.out.1 0 (h - 9); rw [List.set_cons_zero] at hs; have HP := Lib.hid (And.intro hs.1 (HQ.out.2.grown hs.2 HQ.out.2.size (fun k hk => by cases hk; exact hg))); clear hs; have HU := Lib.hid (rgetU_any _ _ _ (Ints.own HP.out.1) HBC.out (by simp; have := HLt.out; omega)); rw [HQq.out] at HU; rw [h8] at HP HU ; have G1 := (own_get HQ.out.1 (j := 1) (by simp; omega)).1; rw [List.getD_cons_succ, HT0.out] at G1)
        refine (HU.out).mono ?_; rintro e' w2 ⟨rfl, rfl⟩
        unfold trip
        by_cases he : er = 0
        · subst he
          obtain ⟨z0, z1⟩ := HSz.out rfl
          have HE := Lib.hid (show getI (h :: t) = (x, nr, 0) by rw [HCv.out]; rfl)
          have k1 : IntKind.i64.wrap x = x := IntWalk.i64_in _ (by omega)
          have k2 : IntKind.i64.wrap (-1 - x) = -1 - x := IntWalk.i64_in _ (by omega)
          go_wp2_with fail
          exact bodyPost_ret (v := .tuple #[.int .i64 (x), .int .i64 (nr : Int), .int .i64 0]) (by simp [results, Try.results97, go_sem]) rfl ⟨by rw [HE.out]; rfl, HP.out.2⟩
        · have HE := Lib.hid (show getI (h :: t) = (0, 0, er) by rw [HCv.out]; exact if_pos he)
          have hne : ((er : Int) == 0) = false := by simp; omega
          go_wp2_with fail
          exact bodyPost_ret (v := .tuple #[.int .i64 0, .int .i64 0, .int .i64 (er : Int)]) (by simp [results, Try.results97, go_sem]) rfl ⟨by rw [HE.out]; rfl, HP.out.2⟩
    · have l1 : ¬ (1 : Int) < (t.length : Int) + 1 := by omega
      have hbad : ¬ (h - 9 = 8 ∧ 0 < t.length ∧ 127 < T0) := by omega
      have HCv := Lib.hid (HCv hbad)
      have HSz := Lib.hid (HSz hbad)
      clear HG2 hbad
      go_enter Try.func97, Try.ntmps97
      go_wp2_with (at_builtin; refine wpList_append_want _ (by rfl) _ _ 42 rfl w.heap.size 5 i0 (.int .u8 0) 1 Try.underlying42 hi hz0 hz1 hz2 rfl .u8 _ _ [] (h :: t) rfl rfl (World.ownsRow_lit w #[] 0 (Nat.le_refl _) (by unfold maxLen; omega) rfl) (HV.out.below (below_one w _)) (by have := HLt.out; unfold maxLen; simp; omega) (by have := HLt.out; simp; omega) (by simp) ?_; intro v' w1 hown hgrow; rw [List.nil_append] at hown; have HQ := Lib.hid (And.intro hown (lit_grown hgrow)); obtain ⟨g, gc, rfl, hg, hg2⟩ := own_form hown (by simp); clear hown hgrow; have hcell1 := (HQ.out.2.cell (p := ⟨bb, off, none⟩) hbl).trans hcell; have G0 := own_get HQ.out.1 (j := 0) (by simp); rw [List.getD_cons_zero] at G0; obtain ⟨G0, F0⟩ := G0; simp only [List.length_cons] at HQ ⊢; have hs := own_set (B := w.heap.size) (g := g) (cap := gc) (n := t.length + 1) (l := h :: t) HQ.out.1 0 (h - 9); rw [List.set_cons_zero] at hs; have HP := Lib.hid (And.intro hs.1 (HQ.out.2.grown hs.2 HQ.out.2.size (fun k hk => by cases hk; exact hg))); clear hs; have HU := Lib.hid (rgetU_any _ _ _ (Ints.own HP.out.1) HBC.out (by simp; have := HLt.out; omega)); rw [HQq.out] at HU; rw [h8] at HP HU)
      refine (HU.out).mono ?_; rintro e' w2 ⟨rfl, rfl⟩
      unfold trip
      by_cases he : er = 0
      · subst he
        obtain ⟨z0, z1⟩ := HSz.out rfl
        have HE := Lib.hid (show getI (h :: t) = (x, nr, 0) by rw [HCv.out]; rfl)
        have k1 : IntKind.i64.wrap x = x := IntWalk.i64_in _ (by omega)
        have k2 : IntKind.i64.wrap (-1 - x) = -1 - x := IntWalk.i64_in _ (by omega)
        go_wp2_with fail
        exact bodyPost_ret (v := .tuple #[.int .i64 (x), .int .i64 (nr : Int), .int .i64 0]) (by simp [results, Try.results97, go_sem]) rfl ⟨by rw [HE.out]; rfl, HP.out.2⟩
      · have HE := Lib.hid (show getI (h :: t) = (0, 0, er) by rw [HCv.out]; exact if_pos he)
        have hne : ((er : Int) == 0) = false := by simp; omega
        go_wp2_with fail
        exact bodyPost_ret (v := .tuple #[.int .i64 0, .int .i64 0, .int .i64 (er : Int)]) (by simp [results, Try.results97, go_sem]) rfl ⟨by rw [HE.out]; rfl, HP.out.2⟩
  · have h8' : (h - 9 == 8) = false := by simpa using h8
    have hbad : ¬ (h - 9 = 8 ∧ 0 < t.length ∧ 127 < T0) := by omega
    have HCv := Lib.hid (HCv hbad)
    have HSz := Lib.hid (HSz hbad)
    clear HG2 hbad
    go_enter Try.func97, Try.ntmps97
    go_wp2_with (at_builtin; refine wpList_append_want _ (by rfl) _ _ 42 rfl w.heap.size 5 i0 (.int .u8 0) 1 Try.underlying42 hi hz0 hz1 hz2 rfl .u8 _ _ [] (h :: t) rfl rfl (World.ownsRow_lit w #[] 0 (Nat.le_refl _) (by unfold maxLen; omega) rfl) (HV.out.below (below_one w _)) (by have := HLt.out; unfold maxLen; simp; omega) (by have := HLt.out; simp; omega) (by simp) ?_; intro v' w1 hown hgrow; rw [List.nil_append] at hown; have HQ := Lib.hid (And.intro hown (lit_grown hgrow)); obtain ⟨g, gc, rfl, hg, hg2⟩ := own_form hown (by simp); clear hown hgrow; have hcell1 := (HQ.out.2.cell (p := ⟨bb, off, none⟩) hbl).trans hcell; have G0 := own_get HQ.out.1 (j := 0) (by simp); rw [List.getD_cons_zero] at G0; obtain ⟨G0, F0⟩ := G0; simp only [List.length_cons] at HQ ⊢; have hs := own_set (B := w.heap.size) (g := g) (cap := gc) (n := t.length + 1) (l := h :: t) HQ.out.1 0 (h - 9); rw [List.set_cons_zero] at hs; have HP := Lib.hid (And.intro hs.1 (HQ.out.2.grown hs.2 HQ.out.2.size (fun k hk => by cases hk; exact hg))); clear hs; have HU := Lib.hid (rgetU_any _ _ _ (Ints.own HP.out.1) HBC.out (by simp; have := HLt.out; omega)); rw [HQq.out] at HU)
    refine (HU.out).mono ?_; rintro e' w2 ⟨rfl, rfl⟩
    unfold trip
    by_cases he : er = 0
    · subst he
      obtain ⟨z0, z1⟩ := HSz.out rfl
      have HE := Lib.hid (show getI (h :: t) = (x, nr, 0) by rw [HCv.out]; rfl)
      have k1 : IntKind.i64.wrap x = x := IntWalk.i64_in _ (by omega)
      have k2 : IntKind.i64.wrap (-1 - x) = -1 - x := IntWalk.i64_in _ (by omega)
      go_wp2_with fail
      exact bodyPost_ret (v := .tuple #[.int .i64 (x), .int .i64 (nr : Int), .int .i64 0]) (by simp [results, Try.results97, go_sem]) rfl ⟨by rw [HE.out]; rfl, HP.out.2⟩
    · have HE := Lib.hid (show getI (h :: t) = (0, 0, er) by rw [HCv.out]; exact if_pos he)
      have hne : ((er : Int) == 0) = false := by simp; omega
      go_wp2_with fail
      exact bodyPost_ret (v := .tuple #[.int .i64 0, .int .i64 0, .int .i64 (er : Int)]) (by simp [results, Try.results97, go_sem]) rfl ⟨by rw [HE.out]; rfl, HP.out.2⟩
set_option maxHeartbeats 16000000 in
theorem rgetI_neg (v : Value) (h : Int) (t : List Int) (w : World) (hv : Ints .u8 w v (h :: t)) (hb : Bt (h :: t)) (hl : t.length ≤ 100000) (h9 : h < 9) :
    Calls Try.prog 97 #[v] w fun e w' => e = .returned (tripI (getI (h :: t))) ∧ Below w.heap.size w w' := by
  have HV := Lib.hid hv
  have HBt := Lib.hid hb
  obtain ⟨i0, hi, hz0, hz1, hz2⟩ := info_parts Try.infoU8
  obtain ⟨bb, off, cap, rfl, hcap, hbl, hcell⟩ := ints_head hv
  have HLt := Lib.hid hl
  have i00 : ((t.length : Int) + 1 == 0) = false := by simp; omega
  have hh := hb.head
  have hu : IntKind.u8.wrap (8 - h) = 8 - h := by rw [IntKind.wrap_u8]; omega
  have HG := Lib.hid (cvt_neg (t := t) hh.1 h9)
  have HBC := Lib.hid (show Bt ((8 - h) :: t.map fun x => 255 - x) from Bt.cons (by omega) (by omega) (fun y hy => by
    obtain ⟨z, hz, rfl⟩ := List.mem_map.1 hy
    have := hb.tail z hz
    omega))
  have HTl := Lib.hid (show (t.map fun x => 255 - x).length = t.length by simp)
  have HFz := Lib.hid (show flipL t.length t = t.map fun x => 255 - x from flip_all t)
  clear hb hv
  go_enter Try.func97, Try.ntmps97
  go_wp2_with (at_builtin; refine wpList_append_want _ (by rfl) _ _ 42 rfl w.heap.size 5 i0 (.int .u8 0) 1 Try.underlying42 hi hz0 hz1 hz2 rfl .u8 _ _ [] (h :: t) rfl rfl (World.ownsRow_lit w #[] 0 (Nat.le_refl _) (by unfold maxLen; omega) rfl) (HV.out.below (below_one w _)) (by have := HLt.out; unfold maxLen; simp; omega) (by have := HLt.out; simp; omega) (by simp) ?_; intro v' w1 hown hgrow; rw [List.nil_append] at hown; have HQ := Lib.hid (And.intro hown (lit_grown hgrow)); obtain ⟨g, gc, rfl, hg, hg2⟩ := own_form hown (by simp); clear hown hgrow; have hcell1 := (HQ.out.2.cell (p := ⟨bb, off, none⟩) hbl).trans hcell; have G0 := own_get HQ.out.1 (j := 0) (by simp); rw [List.getD_cons_zero] at G0; obtain ⟨G0, F0⟩ := G0; simp only [List.length_cons] at HQ ⊢; have hs := own_set (B := w.heap.size) (g := g) (cap := gc) (n := t.length + 1) (l := h :: t) HQ.out.1 0 (8 - h); rw [List.set_cons_zero] at hs; have HP := Lib.hid (And.intro hs.1 (HQ.out.2.grown hs.2 HQ.out.2.size (fun k hk => by cases hk; exact hg))); clear hs)
  go_loopw [7] (fun i wr => ∃ k : Nat, k ≤ t.length ∧ i = .int .i64 ((k : Int) + 1) ∧ Hid (wr.ownsRow w.heap.size 5 1 (.slice (some ⟨g, 0, none⟩) (t.length + 1) gc) (t.length + 1) (((8 - h) :: flipL k t).map (Value.int .u8)) ∧ Below w.heap.size w wr)) (fun i _ => t.length + 1 - (intOf i).toNat)
  case atStart => exact ⟨0, Nat.zero_le _, rfl, Lib.hid ⟨by rw [flip_zero]; exact HP.out.1, HP.out.2⟩⟩
  case round =>
    obtain ⟨k, hk, rfl, hS⟩ := hrel
    clear HP HQ G0 F0 hcell1
    by_cases hlt : k < t.length
    · have i1 : (k : Int) + 1 < (t.length : Int) + 1 := by omega
      have j3 : (0 : Int) ≤ (k : Int) + 1 := by omega
      have hc := own_get hS.out.1 (j := k + 1) (by simp [flip_len]; omega)
      rw [List.getD_cons_succ, flip_getD k t hlt] at hc
      have hs := own_set hS.out.1 (k + 1) (255 - t.getD k 0)
      rw [List.set_cons_succ, flip_set k t hlt] at hs
      have HQ2 := Lib.hid (And.intro hs.1 (hS.out.2.grown hs.2 hS.out.2.size (fun k hk => by cases hk; exact hg)))
      have hz := bt_getD HBt.out.tail k
      obtain ⟨hcc, hcf⟩ := hc
      clear hs hS
      generalize t.getD k 0 = z at *
      have hu2 : IntKind.u8.wrap (255 - z) = 255 - z := by rw [IntKind.wrap_u8]; omega
      go_wp2_with fail
      go_roundw
      case rel => exact ⟨k + 1, by omega, by go_num, HQ2⟩
      case measure => simp [intOf] <;> omega
    · obtain rfl : k = t.length := by omega
      have i1 : ¬ ((t.length : Nat) : Int) + 1 < (t.length : Nat) + 1 := by omega
      have hP := Lib.hid (show _ ∧ _ from ⟨by have := hS.out.1; rw [HFz.out] at this; exact this, hS.out.2⟩)
      clear hS HFz
      generalize (t.map fun x => 255 - x) = T at *
      generalize 8 - h = c0 at *
      have HBl := Lib.hid hP.out.2
      have G0 := own_get hP.out.1 (j := 0) (by simp)
      rw [List.getD_cons_zero] at G0
      have G0 := G0.1
      have HU := Lib.hid (rgetU_any _ _ wr (Ints.own hP.out.1) (HBC.out) (by have := HLt.out; have := HTl.out; simp; omega))
      have HCv := Lib.hid (show ∀ q, getU (c0 :: T) = q → ¬ (c0 = 8 ∧ 0 < T.length ∧ 127 < T.getD 0 0) → getI (h :: t) = if q.2.2 ≠ 0 then (0, 0, q.2.2) else (-1 - q.1, q.2.1, 0) from fun q hq hn => by
        rw [HG.out]; unfold cvt; rw [if_neg hn, hq]; rfl)
      have HSz := Lib.hid (fun h => getU_size (c := c0) HBC.out.tail HBC.out.head.1 h)
      have G1 : 0 < T.length → wr.cell? ⟨g, 1, none⟩ = some (.int .u8 (T.getD 0 0)) := fun hp => by
        have := (own_get hP.out.1 (j := 1) (by simp; omega)).1
        rw [List.getD_cons_succ] at this; exact this
      simp only [HTl.out] at G1 HSz HCv
      have HG2 := Lib.hid (show c0 = 8 → 0 < t.length → 127 < T.getD 0 0 → getI (h :: t) = (0, 0, 6) from fun a b c => by
        rw [HG.out]; unfold cvt; rw [if_pos ⟨a, by rw [HTl.out]; exact b, c⟩])
      generalize getU (c0 :: T) = q at *
      obtain ⟨x, nr, er⟩ := q
      generalize T.getD 0 0 = T0 at *
      by_cases h8 : c0 = 8
      · by_cases hl : 0 < t.length
        · have G1 := G1 hl
          have l1 : (1 : Int) < (t.length : Int) + 1 := by omega
          by_cases hT : 127 < T0
          · have HE := Lib.hid (HG2.out h8 hl hT)
            clear HCv HSz HG2 HU
            subst h8
            go_wp2_with fail
            exact bodyPost_ret (v := .tuple #[.int .i64 0, .int .i64 0, .int .i64 6]) (by simp [results, Try.results97, go_sem]) rfl ⟨by rw [HE.out]; rfl, HBl.out⟩
          · have HBad2 := (show ¬ (c0 = 8 ∧ 0 < t.length ∧ 127 < T0) by omega)
            have HSz := Lib.hid (HSz.out HBad2)
            have HCv := Lib.hid (HCv.out _ rfl HBad2)
            simp only at HCv HSz
            have h8' : (c0 == 8) = true := by simpa using h8
            clear HBad2
            go_wp2_with fail
            refine (HU.out).mono ?_; rintro e' w2 ⟨rfl, rfl⟩
            unfold trip
            by_cases he : er = 0
            · subst he
              obtain ⟨z0, z1⟩ := HSz.out rfl
              have HE := Lib.hid (show getI (h :: t) = (-1 - x, nr, 0) by rw [HCv.out]; rfl)
              have k1 : IntKind.i64.wrap x = x := IntWalk.i64_in _ (by omega)
              have k2 : IntKind.i64.wrap (-1 - x) = -1 - x := IntWalk.i64_in _ (by omega)
              go_wp2_with fail
              exact bodyPost_ret (v := .tuple #[.int .i64 (-1 - x), .int .i64 (nr : Int), .int .i64 0]) (by simp [results, Try.results97, go_sem]) rfl ⟨by rw [HE.out]; rfl, HBl.out⟩
            · have HE := Lib.hid (show getI (h :: t) = (0, 0, er) by rw [HCv.out]; exact if_pos he)
              have hne : ((er : Int) == 0) = false := by simp; omega
              go_wp2_with fail
              exact bodyPost_ret (v := .tuple #[.int .i64 0, .int .i64 0, .int .i64 (er : Int)]) (by simp [results, Try.results97, go_sem]) rfl ⟨by rw [HE.out]; rfl, HBl.out⟩
        · have HBad2 := (show ¬ (c0 = 8 ∧ 0 < t.length ∧ 127 < T0) by omega)
          have HSz := Lib.hid (HSz.out HBad2)
          have HCv := Lib.hid (HCv.out _ rfl HBad2)
          simp only at HCv HSz
          have l1 : ¬ (1 : Int) < (t.length : Int) + 1 := by omega
          have h8' : (c0 == 8) = true := by simpa using h8
          clear G1
          clear HBad2
          go_wp2_with fail
          refine (HU.out).mono ?_; rintro e' w2 ⟨rfl, rfl⟩
          unfold trip
          by_cases he : er = 0
          · subst he
            obtain ⟨z0, z1⟩ := HSz.out rfl
            have HE := Lib.hid (show getI (h :: t) = (-1 - x, nr, 0) by rw [HCv.out]; rfl)
            have k1 : IntKind.i64.wrap x = x := IntWalk.i64_in _ (by omega)
            have k2 : IntKind.i64.wrap (-1 - x) = -1 - x := IntWalk.i64_in _ (by omega)
            go_wp2_with fail
            exact bodyPost_ret (v := .tuple #[.int .i64 (-1 - x), .int .i64 (nr : Int), .int .i64 0]) (by simp [results, Try.results97, go_sem]) rfl ⟨by rw [HE.out]; rfl, HBl.out⟩
          · have HE := Lib.hid (show getI (h :: t) = (0, 0, er) by rw [HCv.out]; exact if_pos he)
            have hne : ((er : Int) == 0) = false := by simp; omega
            go_wp2_with fail
            exact bodyPost_ret (v := .tuple #[.int .i64 0, .int .i64 0, .int .i64 (er : Int)]) (by simp [results, Try.results97, go_sem]) rfl ⟨by rw [HE.out]; rfl, HBl.out⟩
      · have HBad2 := (show ¬ (c0 = 8 ∧ 0 < t.length ∧ 127 < T0) by omega)
        have HSz := Lib.hid (HSz.out HBad2)
        have HCv := Lib.hid (HCv.out _ rfl HBad2)
        simp only at HCv HSz
        have h8' : (c0 == 8) = false := by simpa using h8
        clear G1
        clear HBad2
        go_wp2_with fail
        refine (HU.out).mono ?_; rintro e' w2 ⟨rfl, rfl⟩
        unfold trip
        by_cases he : er = 0
        · subst he
          obtain ⟨z0, z1⟩ := HSz.out rfl
          have HE := Lib.hid (show getI (h :: t) = (-1 - x, nr, 0) by rw [HCv.out]; rfl)
          have k1 : IntKind.i64.wrap x = x := IntWalk.i64_in _ (by omega)
          have k2 : IntKind.i64.wrap (-1 - x) = -1 - x := IntWalk.i64_in _ (by omega)
          go_wp2_with fail
          exact bodyPost_ret (v := .tuple #[.int .i64 (-1 - x), .int .i64 (nr : Int), .int .i64 0]) (by simp [results, Try.results97, go_sem]) rfl ⟨by rw [HE.out]; rfl, HBl.out⟩
        · have HE := Lib.hid (show getI (h :: t) = (0, 0, er) by rw [HCv.out]; exact if_pos he)
          have hne : ((er : Int) == 0) = false := by simp; omega
          go_wp2_with fail
          exact bodyPost_ret (v := .tuple #[.int .i64 0, .int .i64 0, .int .i64 (er : Int)]) (by simp [results, Try.results97, go_sem]) rfl ⟨by rw [HE.out]; rfl, HBl.out⟩
theorem rgetI_any (v : Value) (b : List Int) (w : World) (hv : Ints .u8 w v b) (hb : Bt b) (hl : b.length ≤ 100000) :
    Calls Try.prog 97 #[v] w fun e w' => e = .returned (tripI (getI b)) ∧ Below w.heap.size w w' := by
  cases b with
  | nil =>
    obtain ⟨a, cap, rfl, hcap, -⟩ := hv
    go_enter Try.func97, Try.ntmps97
    go_wp2_with fail
    exact bodyPost_ret (v := .tuple #[.int .i64 0, .int .i64 0, .int .i64 5]) (by simp [results, Try.results97, go_sem]) rfl ⟨rfl, Below.refl _ _⟩
  | cons h t =>
    simp only [List.length_cons] at hl
    by_cases h9 : h < 9
    · exact rgetI_neg v h t w hv hb (by omega) h9
    · exact rgetI_pos v h t w hv hb (by omega) (by omega)
end Go.Proofs.Ytdlebcjkokabjaa
