/- Layer 18: which set saves most; the first error. -/
import Derived.Test.YtifbmdophoemjaaAdvc
namespace Go.Proofs.Ytifbmdophoemjaa
set_option maxRecDepth 100000
open Go.RowKit
set_option linter.unusedVariables false
theorem best_next (f : Nat → Int) (k : Nat) : bestN f (k + 1) = if (bestN f k).2 < f k then (k, f k) else bestN f k := rfl
set_option maxHeartbeats 4000000 in
theorem pbest_any (w : World) (B : Nat) (sv : Value) (s : List Int) (vs : List Nat) (h : TabR w B s vs) (hsv : Szs w sv s) (ho : Okz s) (hv : ∀ x ∈ vs, x < s.length) (hl : s.length ≤ 64) :
    Calls Try.prog 20 #[.slice (some ⟨B, 0, none⟩) s.length s.length, sv] w fun e w' => e = .returned (.tuple #[.int .u32 ((stepN s vs).1 : Nat), .int .i64 (stepN s vs).2]) ∧ Drew w w' := by
  have HC := Lib.hid h
  have HZ := Lib.hid hsv
  have HP := Lib.hid (fun wr k (hd : Drew w wr) (hk : k < s.length) => psaved_any wr B s vs k (h.keep hd.below) ho hv hk hl)
  have HN := Lib.hid (best_next (savedN s vs))
  have HE := Lib.hid (show bestN (savedN s vs) s.length = stepN s vs from rfl)
  have H0 := Lib.hid (show bestN (savedN s vs) 0 = (0, 0) from rfl)
  obtain ⟨q, qc, rfl⟩ := hsv.len
  generalize stepN s vs = Z at *
  generalize savedN s vs = F at *
  clear h hsv ho hv
  go_enter Try.func20, Try.ntmps20
  go_wp2_with fail
  go_loopw [13, 6, 7] (fun iv bv mv wr => ∃ (k b : Nat) (m : Int), k ≤ s.length ∧ iv = .int .i64 k ∧ bv = .int .u32 b ∧ mv = .int .i64 m ∧ Hid (Drew w wr) ∧ Hid (bestN F k = (b, m))) (fun iv _ _ _ => s.length - (intOf iv).toNat)
  case atStart => exact ⟨0, 0, 0, Nat.zero_le _, rfl, rfl, rfl, Lib.hid (Drew.refl _), H0⟩
  case round =>
    obtain ⟨k, b, m, hk, rfl, rfl, rfl, HD, HT⟩ := hrel
    by_cases hlt : k < s.length
    · have hlt' : (k : Int) < (s.length : Int) := by omega
      have hcw := u32_small (show k < 4294967296 by omega)
      obtain ⟨b0, off, rfl, -, hc⟩ := (HZ.out.below HD.out.below).cell hlt
      have HPk := Lib.hid (HP.out wr k HD.out hlt)
      have hn := HN.out k
      rw [HT.out] at hn
      by_cases hm : m < F k
      · rw [if_pos hm] at hn
        have HT2 := Lib.hid hn
        clear hn HT HP HN
        generalize s.getD k 0 = z at *
        generalize F k = y at *
        go_wp2_with fail
        refine HPk.out.mono ?_; rintro e w1 ⟨rfl, hd⟩
        have HD2 := Lib.hid (HD.out.then hd)
        clear hd HPk HD hc
        go_wp2_with fail
        go_roundw
        case rel => exact ⟨k + 1, k, y, by omega, by go_num, rfl, rfl, HD2, HT2⟩
        case measure => simp [intOf]; omega
      · have hm' : ¬ (b, m).2 < F k := hm
        rw [if_neg hm'] at hn
        have HT2 := Lib.hid hn
        clear hn HT HP HN hm'
        generalize s.getD k 0 = z at *
        generalize F k = y at *
        go_wp2_with fail
        refine HPk.out.mono ?_; rintro e w1 ⟨rfl, hd⟩
        have HD2 := Lib.hid (HD.out.then hd)
        clear hd HPk HD hc
        go_wp2_with fail
        go_roundw
        case rel => exact ⟨k + 1, b, m, by omega, by go_num, rfl, rfl, HD2, HT2⟩
        case measure => simp [intOf]; omega
    · have hkn : k = s.length := by omega
      subst hkn
      have hlt' : ¬ (s.length : Int) < (s.length : Int) := by omega
      have hR := HE.out.symm.trans HT.out
      subst hR
      clear HT HE
      go_wp2_with fail
      go_ret2
      exact ⟨rfl, HD.out⟩
/-- The first error: of the sizes, of the views. -/
def goodB (x : Int) : Bool := decide (1 ≤ x) && decide (x ≤ 1099511627776)
def wrongN (d : Int) (s : List Int) : Int := if d < 1 ∨ 6 < d then 2 else if s.length = 2 ^ d.toNat then (if s.all goodB = true then 0 else 2) else 3
def checkN (d : Int) (s : List Int) (vs : List Nat) : Int := if wrongN d s = 0 then (if vs.all (fun v => decide (v < s.length)) = true then 0 else 11) else wrongN d s
theorem wrong_dims {d : Int} (h : d < 1 ∨ 6 < d) (s : List Int) : wrongN d s = 2 := if_pos h
theorem wrong_many {d : Nat} (h1 : 1 ≤ d) (h6 : d ≤ 6) {s : List Int} (h : ¬ s.length = 2 ^ d) : wrongN d s = 3 := by
  unfold wrongN
  rw [if_neg (by omega), if_neg (by simpa using h)]
theorem good_iff {x : Int} : goodB x = true ↔ 1 ≤ x ∧ x ≤ 1099511627776 := by simp [goodB]
theorem all_getD {P : Int → Bool} {s : List Int} (h : ∀ i, i < s.length → P (s.getD i 0) = true) : s.all P = true := by
  rw [List.all_eq_true]
  intro x hx
  obtain ⟨i, hi, rfl⟩ := List.getElem_of_mem hx
  have := h i hi
  simpa [List.getD, hi] using this
theorem wrong_size {d : Nat} (h1 : 1 ≤ d) (h6 : d ≤ 6) {s : List Int} (h : s.length = 2 ^ d) {i : Nat} (hi : i < s.length) (hb : ¬ (1 ≤ s.getD i 0 ∧ s.getD i 0 ≤ 1099511627776)) : wrongN d s = 2 := by
  unfold wrongN
  rw [if_neg (by omega), if_pos (by simpa using h), if_neg]
  rw [List.all_eq_true]
  intro q
  have e : s.getD i 0 = s[i] := by simp [List.getD, hi]
  exact hb (good_iff.1 (e ▸ q _ (List.getElem_mem hi)))
theorem wrong_not {d : Nat} (h1 : 1 ≤ d) (h6 : d ≤ 6) {s : List Int} (h : s.length = 2 ^ d) (hb : ∀ i, i < s.length → 1 ≤ s.getD i 0 ∧ s.getD i 0 ≤ 1099511627776) : wrongN d s = 0 := by
  unfold wrongN
  rw [if_neg (by omega), if_pos (by simpa using h), if_pos (all_getD fun i hi => good_iff.2 (hb i hi))]
theorem wrong_ok {d : Int} {s : List Int} (h : wrongN d s = 0) : ∃ k : Nat, d = k ∧ 1 ≤ k ∧ k ≤ 6 ∧ s.length = 2 ^ k ∧ Okz s := by
  unfold wrongN at h
  by_cases h1 : d < 1 ∨ 6 < d
  · rw [if_pos h1] at h; cases h
  · rw [if_neg h1] at h
    refine ⟨d.toNat, by omega, by omega, by omega, ?_⟩
    by_cases h2 : s.length = 2 ^ d.toNat
    · rw [if_pos h2] at h
      by_cases h3 : s.all goodB = true
      · exact ⟨h2, fun x hx => good_iff.1 (List.all_eq_true.1 h3 x hx)⟩
      · rw [if_neg h3] at h; cases h
    · rw [if_neg h2] at h; cases h
theorem pow64 {k : Nat} (h : k ≤ 6) : 1 ≤ 2 ^ k ∧ 2 ^ k ≤ 64 := by
  have h1 : (2 : Nat) ^ k ≤ 2 ^ 6 := Nat.pow_le_pow_right (by decide) h
  have h2 : 0 < (2 : Nat) ^ k := Nat.pow_pos (by decide)
  omega
theorem sub_full {v n : Nat} (h : n = 2 ^ 0 ∨ ∃ k, n = 2 ^ k) : subN v (n - 1) = decide (v < n) := by
  obtain ⟨k, rfl⟩ : ∃ k, n = 2 ^ k := by rcases h with h | h; exact ⟨0, h⟩; exact h
  have hp : 0 < (2 : Nat) ^ k := Nat.pow_pos (by decide)
  unfold subN
  rw [Nat.and_two_pow_sub_one_eq_mod]
  by_cases q : v < 2 ^ k
  · rw [Nat.mod_eq_of_lt q, decide_eq_true q]; simp
  · rw [decide_eq_false q]
    have := Nat.mod_lt v hp
    simp; omega
theorem check_bad {d : Int} {s : List Int} {vs : List Nat} (h : ¬ wrongN d s = 0) : checkN d s vs = wrongN d s := if_neg h
theorem check_no {d : Int} {s : List Int} {vs : List Nat} (h : wrongN d s = 0) {k : Nat} (hk : k < vs.length) (hv : ¬ vs.getD k 0 < s.length) : checkN d s vs = 11 := by
  unfold checkN
  rw [if_pos h, if_neg]
  rw [List.all_eq_true]
  intro q
  have e : vs.getD k 0 = vs[k] := by simp [List.getD, hk]
  exact hv (e ▸ of_decide_eq_true (q _ (List.getElem_mem hk)))
theorem check_yes {d : Int} {s : List Int} {vs : List Nat} (h : wrongN d s = 0) (hv : ∀ k, k < vs.length → vs.getD k 0 < s.length) : checkN d s vs = 0 := by
  unfold checkN
  rw [if_pos h, if_pos]
  rw [List.all_eq_true]
  intro x hx
  obtain ⟨i, hi, rfl⟩ := List.getElem_of_mem hx
  have := hv i hi
  simpa [List.getD, hi] using this
theorem check_ok {d : Int} {s : List Int} {vs : List Nat} (h : checkN d s vs = 0) : wrongN d s = 0 ∧ ∀ v ∈ vs, v < s.length := by
  unfold checkN at h
  by_cases h1 : wrongN d s = 0
  · rw [if_pos h1] at h
    refine ⟨h1, ?_⟩
    by_cases h2 : vs.all (fun v => decide (v < s.length)) = true
    · exact fun v hv => of_decide_eq_true (List.all_eq_true.1 h2 v hv)
    · rw [if_neg h2] at h; cases h
  · rw [if_neg h1] at h; exact absurd h h1
set_option maxHeartbeats 8000000 in
theorem pcheck_any (w : World) (d : Int) (sv uv : Value) (s : List Int) (vs : List Nat) (hd : (Lit.int .i64 d).wf = true) (hs : Szs w sv s) (hu : Msk w uv vs) (hb : Bd vs) (hl : s.length ≤ 1000) (hvl : vs.length ≤ 1000000) :
    Calls Try.prog 14 #[.int .i64 d, sv, uv] w fun e w' => e = .returned (.int .i64 (checkN d s vs)) ∧ w' = w := by
  have HS := Lib.hid hs
  have HU := Lib.hid hu
  obtain ⟨q, qc, rfl⟩ := hs.len
  obtain ⟨p, pc, rfl⟩ := hu.len
  clear hs hu
  by_cases h1 : d < 1
  · have hE : checkN d s vs = 2 := by rw [check_bad (by rw [wrong_dims (.inl h1)]; decide), wrong_dims (.inl h1)]
    rw [hE]
    clear hE hb
    go_enter Try.func14, Try.ntmps14
    go_wp2_with fail
    go_ret
    exact ⟨rfl, rfl⟩
  by_cases h6 : 6 < d
  · have hE : checkN d s vs = 2 := by rw [check_bad (by rw [wrong_dims (.inr h6)]; decide), wrong_dims (.inr h6)]
    rw [hE]
    clear hE hb
    go_enter Try.func14, Try.ntmps14
    go_wp2_with fail
    go_ret
    exact ⟨rfl, rfl⟩
  obtain ⟨k, rfl⟩ : ∃ k : Nat, d = k := ⟨d.toNat, by omega⟩
  have hp := pow64 (show k ≤ 6 by omega)
  have hk1 : 1 ≤ k := by omega
  have hk6 : k ≤ 6 := by omega
  have hd1 : ¬ (k : Int) < 1 := h1
  have hd6 : ¬ (6 : Int) < (k : Int) := h6
  have hk0 : (0 : Int) ≤ (k : Int) := by omega
  have HWm := Lib.hid (fun (hm : ¬ s.length = 2 ^ k) => wrong_many hk1 hk6 hm)
  have HWs := Lib.hid (fun (hm : s.length = 2 ^ k) i (hi : i < s.length) hb => wrong_size hk1 hk6 hm hi hb)
  have HWn := Lib.hid (fun (hm : s.length = 2 ^ k) hb => wrong_not hk1 hk6 hm hb)
  have HF := Lib.hid (fun v (hm : s.length = 2 ^ k) => sub_full (v := v) (n := s.length) (.inr ⟨k, hm⟩))
  have hsh : wrap64 ((2 : Int) ^ k) = ((2 ^ k : Nat) : Int) := by rw [← pow_cast]; exact wrap64_in (by omega) (by omega)
  have hsu : (2 : Int) ^ k % 4294967296 = ((2 ^ k : Nat) : Int) := by rw [← pow_cast]; omega
  generalize (2 : Nat) ^ k = n at *
  by_cases hm : s.length = n
  rotate_left
  · have hE : checkN k s vs = 3 := by rw [check_bad (by rw [HWm.out hm]; decide), HWm.out hm]
    rw [hE]
    have hmi : ((s.length : Int) != (n : Int)) = true := by rw [bne_iff_ne]; intro e; exact hm (Int.ofNat.inj e)
    clear hE hb hm HWm HWs HWn HF
    go_enter Try.func14, Try.ntmps14
    go_wp2_with fail
    go_ret
    exact ⟨rfl, rfl⟩
  · subst hm
    have hmi : ((s.length : Int) != (s.length : Int)) = false := by simp
    have HW1 := Lib.hid (HWs.out rfl)
    have HW2 := Lib.hid (HWn.out rfl)
    have HF2 := Lib.hid (fun v => HF.out v rfl)
    have HBv := Lib.hid hb
    have HC1 := Lib.hid (fun (h : ¬ wrongN k s = 0) => check_bad (vs := vs) h)
    have HC2 := Lib.hid (fun (h : wrongN k s = 0) i (hi : i < vs.length) hv => check_no h hi hv)
    have HC3 := Lib.hid (fun (h : wrongN k s = 0) hv => check_yes (vs := vs) h hv)
    have hbi : ((s.length - 1 : Nat) : Int) = (s.length : Int) - 1 := by omega
    have HSub := Lib.hid (fun (w : World) (v : Nat) (hv : v < 4294967296) => show Calls Try.prog 21 #[.int .u32 v, .int .u32 ((s.length : Int) - 1)] w fun e w' => e = .returned (.bool (subN v (s.length - 1))) ∧ w = w' from by
      have h := psub_any w v (s.length - 1) hv (by omega)
      rw [hbi] at h
      exact h)
    clear hbi
    have hbs : ((s.length : Int) - 1) % 4294967296 = ((s.length - 1 : Nat) : Int) := by omega
    have hn0 : (0 : Int) ≤ (s.length : Int) - 1 := by omega
    generalize checkN k s vs = C at *
    clear HWm HWs HWn HF hb h1 h6
    go_enter Try.func14, Try.ntmps14
    go_wp2_with fail
    go_loopw [25] (fun iv wr => ∃ j : Nat, j ≤ s.length ∧ iv = .int .i64 j ∧ wr = w ∧ Hid (∀ i, i < j → 1 ≤ s.getD i 0 ∧ s.getD i 0 ≤ 1099511627776)) (fun iv _ => s.length - (intOf iv).toNat)
    case atStart => exact ⟨0, Nat.zero_le _, rfl, by trivial, Lib.hid (fun i hi => by omega)⟩
    case round =>
      obtain ⟨j, hj, rfl, rfl, HJ⟩ := hrel
      by_cases hlt : j < s.length
      · have hlt' : (j : Int) < (s.length : Int) := by omega
        obtain ⟨b0, off, rfl, -, hc⟩ := HS.out.cell hlt
        by_cases hg : 1 ≤ s.getD j 0 ∧ s.getD j 0 ≤ 1099511627776
        · have HJ2 := Lib.hid (show ∀ i, i < j + 1 → 1 ≤ s.getD i 0 ∧ s.getD i 0 ≤ 1099511627776 from fun i hi => if e : i = j then e ▸ hg else HJ.out i (by omega))
          clear HJ HW1 HW2 HC1 HC2 HC3
          generalize s.getD j 0 = x at *
          have g1 : ¬ x < 1 := by omega
          have g2 : ¬ (1099511627776 : Int) < x := by omega
          clear hg
          go_wp2_with fail
          go_roundw
          case rel => exact ⟨j + 1, by omega, by go_num, by trivial, HJ2⟩
          case measure => simp [intOf]; omega
        · have hE := HW1.out j hlt hg
          have hC := HC1.out (by rw [hE]; decide)
          rw [hE] at hC
          subst hC
          clear HJ HW1 HW2 HC1 HC2 HC3 hE
          generalize s.getD j 0 = x at *
          by_cases g1 : x < 1
          · clear hg
            go_wp2_with fail
            go_ret
            exact ⟨rfl, rfl⟩
          · have g2 : (1099511627776 : Int) < x := by omega
            clear hg
            go_wp2_with fail
            go_ret
            exact ⟨rfl, rfl⟩
      · have hjn : j = s.length := by omega
        subst hjn
        have hlt' : ¬ (s.length : Int) < (s.length : Int) := by omega
        have hW := HW2.out HJ.out
        have HC4 := Lib.hid (HC2.out hW)
        have HC5 := Lib.hid (HC3.out hW)
        clear HJ HW1 HW2 HC1 HC2 HC3 hW
        go_wp2_with fail
        go_loopw [41] (fun iv wq => ∃ j : Nat, j ≤ vs.length ∧ iv = .int .i64 j ∧ wq = wr ∧ Hid (∀ i, i < j → vs.getD i 0 < s.length)) (fun iv _ => vs.length - (intOf iv).toNat)
        case atStart => exact ⟨0, Nat.zero_le _, rfl, by trivial, Lib.hid (fun i hi => by omega)⟩
        case round =>
          obtain ⟨j, hj, rfl, rfl, HJ⟩ := hrel
          by_cases hlt : j < vs.length
          · have hlt' : (j : Int) < (vs.length : Int) := by omega
            obtain ⟨b0, off, rfl, hc⟩ := Msk.at HU.out hlt
            have HSj := Lib.hid (HSub.out wr (vs.getD j 0) (HBv.out.getD j))
            rw [HF2.out] at HSj
            by_cases hg : vs.getD j 0 < s.length
            · rw [decide_eq_true hg] at HSj
              have HJ2 := Lib.hid (show ∀ i, i < j + 1 → vs.getD i 0 < s.length from fun i hi => if e : i = j then e ▸ hg else HJ.out i (by omega))
              clear HJ HC4 HC5 hg
              generalize vs.getD j 0 = x at *
              go_wp2_with fail
              refine HSj.out.mono ?_; rintro e w1 ⟨rfl, rfl⟩
              go_wp2_with fail
              go_roundw
              case rel => exact ⟨j + 1, by omega, by go_num, by trivial, HJ2⟩
              case measure => simp [intOf]; omega
            · rw [decide_eq_false hg] at HSj
              have hC := HC4.out j hlt hg
              subst hC
              clear HJ HC4 HC5 hg
              generalize vs.getD j 0 = x at *
              go_wp2_with fail
              refine HSj.out.mono ?_; rintro e w1 ⟨rfl, rfl⟩
              go_wp2_with fail
              go_ret
              exact ⟨rfl, rfl⟩
          · have hjn : j = vs.length := by omega
            subst hjn
            have hlt' : ¬ (vs.length : Int) < (vs.length : Int) := by omega
            have hC := HC5.out HJ.out
            subst hC
            clear HJ HC4 HC5
            go_wp2_with fail
            go_ret
            exact ⟨rfl, rfl⟩
end Go.Proofs.Ytifbmdophoemjaa
