/- The program's Get. -/
import Derived.Test.YtacogaeciodjeaaDoorFrmd
import Derived.Deep.RegionLaw
namespace Go.Proofs.YtacogaeciodjeaaDoor
set_option maxRecDepth 100000
open Go.RowKit
set_option linter.unusedVariables false
def GetP (w : World) (R : List Int × Nat × Nat) (e : Ending) (w' : World) : Prop := (∃ v, e = .returned (.tuple #[v, .int .i64 (R.2.1 : Nat), .int .i64 (R.2.2 : Nat)]) ∧ BOwn w' w.heap.size v R.1) ∧ Below w.heap.size w w'
theorem GetP.none {w w' : World} {e : Ending} {k : Nat} (he : e = .returned (.tuple #[.slice none 0 0, .int .i64 0, .int .i64 k])) (h : Below w.heap.size w w') : GetP w ([], 0, k) e w' :=
  ⟨⟨_, he, own0 _ _⟩, h⟩
theorem get_one {b : List Int} (h : 0 < b.length) (h1 : b.getD 0 0 ≠ 181) : getN b = ([], 0, 6) := by unfold getN; rw [if_pos ⟨h, h1⟩]
theorem get_two {b : List Int} (h : ¬ (0 < b.length ∧ b.getD 0 0 ≠ 181)) (h1 : 60000 < lenN b) : getN b = ([], 0, 6) := by unfold getN; rw [if_neg h, if_pos h1]
theorem get_three {b : List Int} (h : ¬ (0 < b.length ∧ b.getD 0 0 ≠ 181)) (h1 : ¬ 60000 < lenN b) (h2 : b.length < 8 + lenN b) : getN b = ([], 0, 5) := by unfold getN; rw [if_neg h, if_neg h1, if_pos h2]
theorem get_four {b : List Int} (h : ¬ (0 < b.length ∧ b.getD 0 0 ≠ 181)) (h1 : ¬ 60000 < lenN b) (h2 : ¬ b.length < 8 + lenN b) (h3 : (b.take (8 + lenN b)).drop (4 + lenN b) ≠ fourB (moreN 0 (b.take (4 + lenN b)))) : getN b = ([], 0, 13) := by
  unfold getN; rw [if_neg h, if_neg h1, if_neg h2, if_neg h3]
theorem get_five {b : List Int} (h : ¬ (0 < b.length ∧ b.getD 0 0 ≠ 181)) (h1 : ¬ 60000 < lenN b) (h2 : ¬ b.length < 8 + lenN b) (h3 : (b.take (8 + lenN b)).drop (4 + lenN b) = fourB (moreN 0 (b.take (4 + lenN b)))) : getN b = ((b.take (4 + lenN b)).drop 4, 8 + lenN b, 0) := by
  unfold getN; rw [if_neg h, if_neg h1, if_neg h2, if_pos h3]
theorem first_cell {w : World} {v : Value} {b : List Int} (hv : Ints .u8 w v b) (h0 : 0 < b.length) : ∃ bb off cap, v = .slice (some ⟨bb, off, none⟩) b.length cap ∧ w.cell? ⟨bb, off, none⟩ = some (.int .u8 (b.getD 0 0)) := by
  obtain ⟨a, cap, rfl, -, h | ⟨bb, off, rfl, -, h⟩⟩ := hv
  · subst h; simp at h0
  · exact ⟨bb, off, cap, rfl, by simpa using h 0 h0⟩
set_option maxHeartbeats 4000000 in
theorem pget_any (v : Value) (b : List Int) (w : World) (hv : Ints .u8 w v b) (hb : Byt b) (hl : b.length ≤ 1099511627776) (hT : Fours w) :
    Calls Tryd.prog 10 #[v] w (GetP w (getN b)) := by
  have HLn := Lib.hid (plen_any v b w hv hb)
  have hlt := lenN_le hb
  by_cases h0 : 0 < b.length
  · obtain ⟨bb, off, cap, rfl, hc⟩ := first_cell hv h0
    have h0' : 0 < (b.length : Int) := by omega
    by_cases h1 : b.getD 0 0 = 181
    · rw [h1] at hc
      have hno : ¬ (0 < b.length ∧ b.getD 0 0 ≠ 181) := fun h => h.2 h1
      have HZ := Lib.hid (fun w' => psize_any (lenN b : Int) w')
      by_cases h2 : 60000 < lenN b
      · rw [get_two hno h2]
        have h2' : 60000 < (lenN b : Int) := by omega
        generalize lenN b = n at *
        generalize b.length = L at *
        clear hv hb hT h1 hno
        go_enter Tryd.func10, Tryd.ntmps10
        go_wp2_with fail
        refine (HLn.out).mono ?_; rintro e w1 ⟨rfl, hb1⟩
        go_wp2_with fail
        go_ret3
        exact GetP.none rfl hb1
      · rw [show (sizeN (lenN b : Int)) = (lenN b : Int) + 8 by unfold sizeN; rw [if_neg (by omega)]] at HZ
        have h2' : ¬ 60000 < (lenN b : Int) := by omega
        by_cases h3 : b.length < 8 + lenN b
        · rw [get_three hno h2 h3]
          have h3' : (b.length : Int) < (lenN b : Int) + 8 := by omega
          generalize lenN b = n at *
          generalize b.length = L at *
          clear hv hb hT h1 hno
          go_enter Tryd.func10, Tryd.ntmps10
          go_wp2_with fail
          refine (HLn.out).mono ?_; rintro e w1 ⟨rfl, hb1⟩
          have HB := Lib.hid hb1
          clear hb1
          go_wp2_with fail
          refine (HZ.out _).mono ?_; rintro e w' ⟨rfl, rfl⟩
          go_wp2_with fail
          go_ret3
          exact GetP.none rfl HB.out
        · have h3' : ¬ (b.length : Int) < (lenN b : Int) + 8 := by omega
          have h3'' : 8 + lenN b ≤ b.length := by omega
          obtain ⟨u1, c1, hop1, hi1⟩ := part_any hv (k := 4 + lenN b) (h := 8 + lenN b) (by omega) h3''
          obtain ⟨hop2, hi2⟩ := upto_any hv (h := 4 + lenN b) (by omega)
          obtain ⟨u3, c3, hop3, hi3⟩ := part_any hv (k := 4) (h := 4 + lenN b) (by omega) (by omega)
          rw [show 8 + lenN b - (4 + lenN b) = 4 by omega] at hop1 hi1
          rw [show 4 + lenN b - 4 = lenN b by omega] at hop3 hi3
          have e8 : ((8 + lenN b : Nat) : Int) = (lenN b : Int) + 8 := by omega
          have e4 : ((4 + lenN b : Nat) : Int) = 4 + (lenN b : Int) := by omega
          have e40 : ((4 : Nat) : Int) = 4 := rfl
          simp only [e8, e4] at hop1
          simp only [e4] at hop2
          simp only [e4, e40] at hop3
          clear e8 e4 e40
          have HTl := Lib.hid (fun w' (h : Below w.heap.size w w') => ptail_any _ (b.take (4 + lenN b)) w' (hi2.below h) (byt_take hb _) (by rw [List.length_take]; omega) (hT.call h))
          have HEq := Lib.hid (fun u w' (h : Below w.heap.size w w') (hu : Ints .u8 w' u (fourB (moreN 0 (b.take (4 + lenN b))))) => equal_any _ u _ _ w' (hi1.below h) hu (byt_drop (byt_take hb _) _) (four_bytes _))
          have HCl := Lib.hid (fun w' (h : Below w.heap.size w w') => clone_any _ _ w' (hi3.below h) (by simp; omega))
          have hwa : IntKind.i64.wrap (4 + (lenN b : Int)) = 4 + (lenN b : Int) := IntWalk.i64_in _ (by omega)
          by_cases h4 : (b.take (8 + lenN b)).drop (4 + lenN b) = fourB (moreN 0 (b.take (4 + lenN b)))
          · rw [get_five hno h2 h3 h4]
            simp only [h4, decide_true] at HEq
            generalize fourB (moreN 0 (b.take (4 + lenN b))) = f4 at *
            generalize (b.take (4 + lenN b)).drop 4 = body at *
            have e8 : ((8 + lenN b : Nat) : Int) = (lenN b : Int) + 8 := by omega
            unfold GetP
            simp only [e8]
            clear e8
            generalize lenN b = n at *
            generalize b.length = L at *
            clear hv hb hT h1 hno hi1 hi2 hi3 h4
            go_enter Tryd.func10, Tryd.ntmps10
            go_wp2_with fail
            refine (HLn.out).mono ?_; rintro e w1 ⟨rfl, hb1⟩
            have HB := Lib.hid hb1
            clear hb1 HLn
            go_wp2_with fail
            refine (HZ.out _).mono ?_; rintro e w' ⟨rfl, rfl⟩
            go_upto_region 10 with fail
            have hBw : Below w.heap.size w w1.drew := HB.out.drew
            go_region_held3 (fun _ => True) (exact True.intro)
              (first
                | (go_at_call 14; refine (HTl.out _ hBw).mono ?_; rintro r w2 ⟨⟨v2, rfl, ho2⟩, hb2⟩; have hBw := below_then hBw hb2; have HO2 := Lib.hid ho2; clear hb2 ho2)
                | (go_at_call 18; refine (HEq.out _ _ hBw (Ints.own HO2.out)).mono ?_; rintro r w3 ⟨rfl, rfl⟩))
            have HBw := Lib.hid hBw
            clear hBw
            go_wp2_with fail
            refine (HCl.out _ HBw.out).mono ?_; rintro e w4 ⟨⟨v4, rfl, ho4⟩, hb4⟩
            have HC4 := Lib.hid (And.intro (own_mono ho4 HBw.out.size) (below_then HBw.out hb4))
            clear ho4 hb4
            go_wp2_with fail
            go_ret3
            exact ⟨⟨_, rfl, HC4.out.1⟩, HC4.out.2⟩
          · rw [get_four hno h2 h3 h4]
            simp only [h4, decide_false] at HEq
            generalize fourB (moreN 0 (b.take (4 + lenN b))) = f4 at *
            generalize lenN b = n at *
            generalize b.length = L at *
            clear hv hb hT h1 hno hi1 hi2 hi3 h4 hop3 HCl
            go_enter Tryd.func10, Tryd.ntmps10
            go_wp2_with fail
            refine (HLn.out).mono ?_; rintro e w1 ⟨rfl, hb1⟩
            have HB := Lib.hid hb1
            clear hb1 HLn
            go_wp2_with fail
            refine (HZ.out _).mono ?_; rintro e w' ⟨rfl, rfl⟩
            go_upto_region 10 with fail
            have hBw : Below w.heap.size w w1.drew := HB.out.drew
            go_region_held3 (fun _ => True) (exact True.intro)
              (first
                | (go_at_call 14; refine (HTl.out _ hBw).mono ?_; rintro r w2 ⟨⟨v2, rfl, ho2⟩, hb2⟩; have hBw := below_then hBw hb2; have HO2 := Lib.hid ho2; clear hb2 ho2)
                | (go_at_call 18; refine (HEq.out _ _ hBw (Ints.own HO2.out)).mono ?_; rintro r w3 ⟨rfl, rfl⟩))
            have HBw := Lib.hid hBw
            clear hBw
            go_wp2_with fail
            go_ret3
            exact GetP.none rfl HBw.out
    · rw [get_one h0 h1]
      have hq : (b.getD 0 0 != 181) = true := by simpa using h1
      generalize b.getD 0 0 = x at *
      generalize b.length = L at *
      clear hv hb hT h1
      go_enter Tryd.func10, Tryd.ntmps10
      go_wp2_with fail
      go_ret3
      exact GetP.none rfl (Below.refl _ _)
  · have hb0 : b = [] := List.length_eq_zero_iff.1 (by omega)
    subst hb0
    have HZ := Lib.hid (fun w' => psize_any 0 w')
    rw [show sizeN 0 = 8 from rfl] at HZ
    rw [show lenN [] = 0 from rfl] at HLn
    rw [show getN [] = ([], 0, 5) from rfl]
    obtain ⟨a, cap, rfl, -, -⟩ := hv
    clear hb hT
    go_enter Tryd.func10, Tryd.ntmps10
    go_wp2_with fail
    refine (HLn.out).mono ?_; rintro e w1 ⟨rfl, hb1⟩
    have HB := Lib.hid hb1
    clear hb1
    go_wp2_with fail
    refine (HZ.out _).mono ?_; rintro e w' ⟨rfl, rfl⟩
    go_wp2_with fail
    go_ret3
    exact GetP.none rfl HB.out
end Go.Proofs.YtacogaeciodjeaaDoor
