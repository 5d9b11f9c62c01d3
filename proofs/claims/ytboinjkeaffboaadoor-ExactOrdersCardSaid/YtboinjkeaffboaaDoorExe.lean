/- Package exact: Join where there is room, Add; the value of a sum. -/
import Derived.Test.YtboinjkeaffboaaDoorExd
import Derived.RegionTactic
namespace Go.Proofs.YtboinjkeaffboaaDoor
set_option maxRecDepth 100000
open Go.RowKit
set_option linter.unusedVariables false
theorem mid_sum {w : World} {N M f g : Nat} {v u : Value} {x y : Bool} (h1 : Cells4 w N v x f true) (h2 : Cells4 w M u y g true) (b' : Bool) (v' : Value) :
    ((w.setCell ⟨N, 1, none⟩ (.bool b')).setCell ⟨N, 0, none⟩ v').cell? ⟨N, 2, none⟩ = some (.int .u8 f) ∧ ((w.setCell ⟨N, 1, none⟩ (.bool b')).setCell ⟨N, 0, none⟩ v').cell? ⟨M, 2, none⟩ = some (.int .u8 g) ∧ ((w.setCell ⟨N, 1, none⟩ (.bool b')).setCell ⟨N, 0, none⟩ v').frozen? ⟨N, 2, none⟩ = false := by
  have k : ∀ j : Nat, ((w.setCell ⟨N, 1, none⟩ (.bool b')).setCell ⟨N, 0, none⟩ v').cell? ⟨j, 2, none⟩ = w.cell? ⟨j, 2, none⟩ := fun j => by
    exact (World.cell?_setCell_other _ ⟨N, 0, none⟩ ⟨j, 2, none⟩ _ (by intro e; cases e)).trans (World.cell?_setCell_other _ ⟨N, 1, none⟩ ⟨j, 2, none⟩ _ (by intro e; cases e))
  exact ⟨(k N).trans h1.reads.2.2.1, (k M).trans h2.reads.2.2.1, by simp [go_sem, h1.free.2.2.1]⟩
set_option maxHeartbeats 1000000 in
theorem pjoin_fit (w : World) (N M f g : Nat) (s t : Int) (hs : SumAt w N f s) (ho : SumAt w M g t) (hr : Fits (s + t)) :
    Calls Tryd.prog 21 #[.pointer (some ⟨N, 0, none⟩), .pointer (some ⟨M, 0, none⟩)] w (JoinP N (f ||| g) (s + t) w) := by
  have HT := Lib.hid (totals_any w N M f g s t hs ho)
  have H1 := Lib.hid (show Calls Tryd.prog 38 #[.pointer (some ⟨N, 0, none⟩)] w fun e w' => e = .returned (.bool true) ∧ w = w' by obtain ⟨v, h, -⟩ := hs; exact usable_any w N _ _ _ _ h)
  have H2 := Lib.hid (show Calls Tryd.prog 38 #[.pointer (some ⟨M, 0, none⟩)] w fun e w' => e = .returned (.bool true) ∧ w = w' by obtain ⟨v, h, -⟩ := ho; exact usable_any w M _ _ _ _ h)
  have HG := Lib.hid (hs.good.join ho.good hr)
  have ho8 := or_u8_nat f g (by have := hs.good.1; omega) (by have := ho.good.1; omega)
  unfold Fits at hr
  generalize s + t = r at *
  have HB := Lib.hid (fun w1 v a (h : WList w1 v a) (hz : wv a = (r.natAbs : Int)) => show Calls Tryd.prog 46 #[v] w1 fun e w' => e = .returned (.int .i64 (bitsZ (r.natAbs : Int))) ∧ w1 = w' by rw [← hz]; exact bits_any v a w1 h)
  generalize bitsZ (r.natAbs : Int) = L at *
  have hL : (L : Int) ≤ 2240 := by omega
  obtain ⟨sv, c1, -, -⟩ := hs
  obtain ⟨ov, c2, -, -⟩ := ho
  have HC := Lib.hid (And.intro c1 c2)
  have HO := Lib.hid ho8
  clear c1 c2 hr ho8
  unfold JoinP
  go_enter Tryd.func21, Tryd.ntmps21
  go_wp2_with fail
  refine (H1.out).mono ?_; rintro e w1 ⟨rfl, rfl⟩
  go_wp2_with fail
  refine (H2.out).mono ?_; rintro e w1 ⟨rfl, rfl⟩
  go_wp2_with fail
  refine (HT.out).mono ?_; rintro e w1 ⟨v, rfl, hm, hb⟩
  have HM := Lib.hid hm
  obtain ⟨a, ha, -, -, hz⟩ := hm
  have HB1 := Lib.hid (HB.out w1 v a ha hz)
  have hc1 := HC.out.1.below hb
  have hc2 := HC.out.2.below hb
  have HE := Lib.hid (And.intro (show w.grownBy w1 (some N) from grown_below hb _) hc1)
  obtain ⟨p, c, rfl⟩ := ha.shape
  generalize a.length = al at *
  clear ha hz hb HB HT H1 H2 HC
  go_wp2_with fail
  refine (HB1.out).mono ?_; rintro e w2 ⟨rfl, rfl⟩
  obtain ⟨r0, r1, r2, r3⟩ := hc1.reads
  obtain ⟨z0, z1, z2, z3⟩ := hc1.free
  obtain ⟨s0, s1, s2, s3⟩ := hc2.reads
  have hS := shut_sum (g := f ||| g) hc1 HM.out rfl HG.out
  have HS := Lib.hid hS
  have hw := mid_sum hc1 hc2 (decide (r < 0)) (.slice p al c)
  have HW := Lib.hid hw
  clear hS hw s0 s1 s2 s3 hc1 hc2 HB1
  go_upto_region 7 with fail
  clear r0 r1 r2 r3 z0 z1 z2 z3
  generalize (w1.setCell ⟨N, 1, none⟩ (.bool (decide (r < 0)))).setCell ⟨N, 0, none⟩ (.slice p al c) = W at *
  obtain ⟨x1, x2, x3⟩ := HW.out
  have hor := HO.out
  clear HW HM
  go_region
  go_wp2_with fail
  go_ret
  exact ⟨rfl, HS.out.1.below (Below.refl _ _).drew, grown_then HE.out.1 (grown_drew HS.out.2)⟩
set_option maxHeartbeats 1000000 in
theorem padd_fit (w : World) (N f x : Nat) (s : Int) (hs : SumAt w N f s) (hx : W64 x) (hT : Tab64 w) (hr : Fits (s + unitsI x)) :
    Calls Tryd.prog 12 #[.pointer (some ⟨N, 0, none⟩), .float .f64 x] w (JoinP N (f ||| flagN x) (s + unitsI x) w) := by
  have HA := Lib.hid (alone_any x w hx hT)
  have HJ := Lib.hid (fun w1 (h : Below w.heap.size w w1) (k : SumAt w1 w.heap.size (flagN x) (unitsI x)) => pjoin_fit w1 N w.heap.size f (flagN x) s (unitsI x) (hs.below h) k hr)
  unfold JoinP
  clear hs hx hT hr
  go_enter Tryd.func12, Tryd.ntmps12
  go_wp2_with fail
  refine (HA.out).mono ?_; rintro e w1 ⟨rfl, hm, hb⟩
  have HJ1 := Lib.hid (HJ.out w1 hb hm)
  have HB := Lib.hid hb
  clear hb hm HA HJ
  go_wp2_with fail
  refine (HJ1.out).mono ?_; rintro e w2 ⟨rfl, h1, h2⟩
  have HE := Lib.hid (And.intro h1 (grown_then (grown_below HB.out _) h2))
  clear h1 h2 HJ1 HB
  go_wp2_with fail
  go_ret
  exact ⟨rfl, HE.out.1, HE.out.2⟩
set_option maxHeartbeats 1000000 in
theorem padd_over (w : World) (N f x : Nat) (s : Int) (hs : SumAt w N f s) (hx : W64 x) (hT : Tab64 w) (hr : ¬ Fits (s + unitsI x)) :
    Calls Tryd.prog 12 #[.pointer (some ⟨N, 0, none⟩), .float .f64 x] w (OverP w) := by
  have HA := Lib.hid (alone_any x w hx hT)
  have HJ := Lib.hid (fun w1 (h : Below w.heap.size w w1) (k : SumAt w1 w.heap.size (flagN x) (unitsI x)) => pjoin_over w1 N w.heap.size f (flagN x) s (unitsI x) (hs.below h) k hr)
  unfold OverP
  clear hs hx hT hr
  go_enter Tryd.func12, Tryd.ntmps12
  go_wp2_with fail
  refine (HA.out).mono ?_; rintro e w1 ⟨rfl, hm, hb⟩
  have HJ1 := Lib.hid (HJ.out w1 hb hm)
  have HB := Lib.hid hb
  clear hb hm HA HJ
  go_wp2_with fail
  refine (HJ1.out).mono ?_; rintro e w2 ⟨rfl, h2⟩
  have HE := Lib.hid (below_then HB.out h2)
  clear h2 HJ1 HB
  go_wp2_with fail
  go_ret
  exact ⟨rfl, HE.out⟩
/-- The value of a sum in a state, as a word. -/
def valueW (f : Nat) (t : Int) : Nat := if f.testBit 0 || (f.testBit 1 && f.testBit 2) then 9221120237041090561 else if f.testBit 1 then 9218868437227405312 else if f.testBit 2 then 18442240474082181120 else if f.testBit 3 && !f.testBit 4 then 9223372036854775808 else signN (decide (t < 0)) (nearW t.natAbs (-1074))
theorem has_bits : ∀ f : Nat, f < 32 → (((f &&& 1 : Nat) : Int) != 0) = f.testBit 0 ∧ (((f &&& 2 : Nat) : Int) != 0) = f.testBit 1 ∧ (((f &&& 4 : Nat) : Int) != 0) = f.testBit 2 ∧ (((f &&& 8 : Nat) : Int) != 0) = f.testBit 3 ∧ (((f &&& 16 : Nat) : Int) != 0) = f.testBit 4 ∧ (((f &&& 7 : Nat) : Int) != 0) = (f.testBit 0 || f.testBit 1 || f.testBit 2) := by decide +kernel
abbrev HasP (w : World) (N : Nat) (k : Int) (r : Bool) : Prop := Calls Tryd.prog 39 #[.pointer (some ⟨N, 0, none⟩), .int .u8 k] w fun e w' => e = .returned (.bool r) ∧ w = w'
theorem has_all (w : World) (N f : Nat) (t : Int) (h : SumAt w N f t) : HasP w N 1 (f.testBit 0) ∧ HasP w N 2 (f.testBit 1) ∧ HasP w N 4 (f.testBit 2) ∧ HasP w N 8 (f.testBit 3) ∧ HasP w N 16 (f.testBit 4) ∧ HasP w N 7 (f.testBit 0 || f.testBit 1 || f.testBit 2) := by
  obtain ⟨v, h1, -, h3⟩ := h
  obtain ⟨k0, k1, k2, k3, k4, k5⟩ := has_bits f h3.1
  exact ⟨has_any w N v _ _ f h1 h3.1 1 (by decide) _ k0, has_any w N v _ _ f h1 h3.1 2 (by decide) _ k1, has_any w N v _ _ f h1 h3.1 4 (by decide) _ k2, has_any w N v _ _ f h1 h3.1 8 (by decide) _ k3, has_any w N v _ _ f h1 h3.1 16 (by decide) _ k4, has_any w N v _ _ f h1 h3.1 7 (by decide) _ k5⟩
def ValueP (R : Nat) (w : World) (e : Ending) (w' : World) : Prop := e = .returned (.float .f64 R) ∧ Below w.heap.size w w'
set_option maxHeartbeats 2000000 in
theorem pvalue_any (w : World) (N f : Nat) (t : Int) (hs : SumAt w N f t) (hT : Tab w) :
    Calls Tryd.prog 23 #[.pointer (some ⟨N, 0, none⟩)] w (ValueP (valueW f t) w) := by
  obtain ⟨g0, g1, g2, g3, g4, -⟩ := has_all w N f t hs
  have h0 := Lib.hid g0
  have h1 := Lib.hid g1
  have h2 := Lib.hid g2
  have h3 := Lib.hid g3
  have h4 := Lib.hid g4
  have HU := Lib.hid (show Calls Tryd.prog 38 #[.pointer (some ⟨N, 0, none⟩)] w fun e w' => e = .returned (.bool true) ∧ w = w' by obtain ⟨v, h, -⟩ := hs; exact usable_any w N _ _ _ _ h)
  obtain ⟨v, c1, m1, k1⟩ := hs
  obtain ⟨a, l1, -, e1, n1⟩ := m1.list k1.2.2
  have HJ := Lib.hid (fun w1 (h : Below w.heap.size w w1) => join_any (decide (t < 0)) v a t.natAbs (-1074) w1 (l1.below h) (by omega) e1 (by decide) (by decide) (hT.call h))
  unfold valueW ValueP
  generalize signN (decide (t < 0)) (nearW t.natAbs (-1074)) = R at *
  generalize decide (t < 0) = x at *
  obtain ⟨r0, r1, -, -⟩ := c1.reads
  obtain ⟨p, c, rfl⟩ := l1.shape
  have HN := Lib.hid (fun w => fnan_any w)
  have HI := Lib.hid (fun w => finf_any w)
  have HD := Lib.hid (fun w => finf_dn w)
  have HC := Lib.hid (fun w => copysign_pos 0 w (by decide))
  generalize a.length = al at *
  generalize f.testBit 0 = b0 at *
  generalize f.testBit 1 = b1 at *
  generalize f.testBit 2 = b2 at *
  generalize f.testBit 3 = b3 at *
  generalize f.testBit 4 = b4 at *
  clear g0 g1 g2 g3 g4 c1 m1 k1 l1 e1 n1 hT
  cases b0
  · cases b1
    · cases b2
      · cases b3
        · go_enter Tryd.func23, Tryd.ntmps23
          go_upto_region 12 with (first | ((with_reducible refine (HU.out).mono ?_); rintro e w' ⟨rfl, rfl⟩) | ((with_reducible refine (h0.out).mono ?_); rintro e w' ⟨rfl, rfl⟩) | ((with_reducible refine (h1.out).mono ?_); rintro e w' ⟨rfl, rfl⟩) | ((with_reducible refine (h2.out).mono ?_); rintro e w' ⟨rfl, rfl⟩) | ((with_reducible refine (h3.out).mono ?_); rintro e w' ⟨rfl, rfl⟩) | ((with_reducible refine (h4.out).mono ?_); rintro e w' ⟨rfl, rfl⟩))
          have hk : w.drew.cell? ⟨N, 0, none⟩ = some (.slice p al c) ∧ w.drew.cell? ⟨N, 1, none⟩ = some (.bool x) := ⟨by simp [r0], by simp [r1]⟩
          have hBw : Below w.heap.size w w.drew := (Below.refl _ _).drew
          go_region_held3 (fun w' => w'.cell? ⟨N, 0, none⟩ = some (.slice p al c) ∧ w'.cell? ⟨N, 1, none⟩ = some (.bool x)) (with_reducible exact hk)
            ((go_at_call 51; refine (HJ.out _ hBw).mono ?_; rintro e w1 ⟨rfl, g6⟩; have hk := And.intro (cell_later g6 hk.1) (cell_later g6 hk.2); have HE := Lib.hid (below_then hBw g6); clear g6 hBw))
          clear hk
          go_wp2_with fail
          go_ret
          exact ⟨rfl, HE.out⟩
        · cases b4
          · go_enter Tryd.func23, Tryd.ntmps23
            go_wp2_with (first | ((with_reducible refine (HU.out).mono ?_); rintro e w' ⟨rfl, rfl⟩) | ((with_reducible refine (h0.out).mono ?_); rintro e w' ⟨rfl, rfl⟩) | ((with_reducible refine (h1.out).mono ?_); rintro e w' ⟨rfl, rfl⟩) | ((with_reducible refine (h2.out).mono ?_); rintro e w' ⟨rfl, rfl⟩) | ((with_reducible refine (h3.out).mono ?_); rintro e w' ⟨rfl, rfl⟩) | ((with_reducible refine (h4.out).mono ?_); rintro e w' ⟨rfl, rfl⟩) | ((with_reducible refine (HC.out _).mono ?_); rintro e w' ⟨rfl, rfl⟩))
            go_ret
            exact ⟨rfl, Below.refl _ _⟩
          · go_enter Tryd.func23, Tryd.ntmps23
            go_upto_region 12 with (first | ((with_reducible refine (HU.out).mono ?_); rintro e w' ⟨rfl, rfl⟩) | ((with_reducible refine (h0.out).mono ?_); rintro e w' ⟨rfl, rfl⟩) | ((with_reducible refine (h1.out).mono ?_); rintro e w' ⟨rfl, rfl⟩) | ((with_reducible refine (h2.out).mono ?_); rintro e w' ⟨rfl, rfl⟩) | ((with_reducible refine (h3.out).mono ?_); rintro e w' ⟨rfl, rfl⟩) | ((with_reducible refine (h4.out).mono ?_); rintro e w' ⟨rfl, rfl⟩))
            have hk : w.drew.cell? ⟨N, 0, none⟩ = some (.slice p al c) ∧ w.drew.cell? ⟨N, 1, none⟩ = some (.bool x) := ⟨by simp [r0], by simp [r1]⟩
            have hBw : Below w.heap.size w w.drew := (Below.refl _ _).drew
            go_region_held3 (fun w' => w'.cell? ⟨N, 0, none⟩ = some (.slice p al c) ∧ w'.cell? ⟨N, 1, none⟩ = some (.bool x)) (with_reducible exact hk)
              ((go_at_call 51; refine (HJ.out _ hBw).mono ?_; rintro e w1 ⟨rfl, g6⟩; have hk := And.intro (cell_later g6 hk.1) (cell_later g6 hk.2); have HE := Lib.hid (below_then hBw g6); clear g6 hBw))
            clear hk
            go_wp2_with fail
            go_ret
            exact ⟨rfl, HE.out⟩
      · go_enter Tryd.func23, Tryd.ntmps23
        go_wp2_with (first | ((with_reducible refine (HU.out).mono ?_); rintro e w' ⟨rfl, rfl⟩) | ((with_reducible refine (h0.out).mono ?_); rintro e w' ⟨rfl, rfl⟩) | ((with_reducible refine (h1.out).mono ?_); rintro e w' ⟨rfl, rfl⟩) | ((with_reducible refine (h2.out).mono ?_); rintro e w' ⟨rfl, rfl⟩) | ((with_reducible refine (h3.out).mono ?_); rintro e w' ⟨rfl, rfl⟩) | ((with_reducible refine (h4.out).mono ?_); rintro e w' ⟨rfl, rfl⟩) | ((with_reducible refine (HD.out _).mono ?_); rintro e w' ⟨rfl, rfl⟩))
        go_ret
        exact ⟨rfl, Below.refl _ _⟩
    · cases b2
      · go_enter Tryd.func23, Tryd.ntmps23
        go_wp2_with (first | ((with_reducible refine (HU.out).mono ?_); rintro e w' ⟨rfl, rfl⟩) | ((with_reducible refine (h0.out).mono ?_); rintro e w' ⟨rfl, rfl⟩) | ((with_reducible refine (h1.out).mono ?_); rintro e w' ⟨rfl, rfl⟩) | ((with_reducible refine (h2.out).mono ?_); rintro e w' ⟨rfl, rfl⟩) | ((with_reducible refine (h3.out).mono ?_); rintro e w' ⟨rfl, rfl⟩) | ((with_reducible refine (h4.out).mono ?_); rintro e w' ⟨rfl, rfl⟩) | ((with_reducible refine (HI.out _).mono ?_); rintro e w' ⟨rfl, rfl⟩))
        go_ret
        exact ⟨rfl, Below.refl _ _⟩
      · go_enter Tryd.func23, Tryd.ntmps23
        go_wp2_with (first | ((with_reducible refine (HU.out).mono ?_); rintro e w' ⟨rfl, rfl⟩) | ((with_reducible refine (h0.out).mono ?_); rintro e w' ⟨rfl, rfl⟩) | ((with_reducible refine (h1.out).mono ?_); rintro e w' ⟨rfl, rfl⟩) | ((with_reducible refine (h2.out).mono ?_); rintro e w' ⟨rfl, rfl⟩) | ((with_reducible refine (h3.out).mono ?_); rintro e w' ⟨rfl, rfl⟩) | ((with_reducible refine (h4.out).mono ?_); rintro e w' ⟨rfl, rfl⟩) | ((with_reducible refine (HN.out _).mono ?_); rintro e w' ⟨rfl, rfl⟩))
        go_ret
        exact ⟨rfl, Below.refl _ _⟩
  · go_enter Tryd.func23, Tryd.ntmps23
    go_wp2_with (first | ((with_reducible refine (HU.out).mono ?_); rintro e w' ⟨rfl, rfl⟩) | ((with_reducible refine (h0.out).mono ?_); rintro e w' ⟨rfl, rfl⟩) | ((with_reducible refine (h1.out).mono ?_); rintro e w' ⟨rfl, rfl⟩) | ((with_reducible refine (h2.out).mono ?_); rintro e w' ⟨rfl, rfl⟩) | ((with_reducible refine (h3.out).mono ?_); rintro e w' ⟨rfl, rfl⟩) | ((with_reducible refine (h4.out).mono ?_); rintro e w' ⟨rfl, rfl⟩) | ((with_reducible refine (HN.out _).mono ?_); rintro e w' ⟨rfl, rfl⟩))
    go_ret
    exact ⟨rfl, Below.refl _ _⟩
end Go.Proofs.YtboinjkeaffboaaDoor
