/- Package exact: totals, Join, Add. -/
import Derived.Test.YtboinjkeaffboaaDoorExc
namespace Go.Proofs.YtboinjkeaffboaaDoor
set_option maxRecDepth 100000
open Go.RowKit
set_option linter.unusedVariables false
theorem fits_words {z K : Nat} (h : bitsZ (z : Int) ≤ 32 * K) : (z : Int) < 4294967296 ^ K := by
  rw [words_two]
  have h1 := lt_bits h
  have : ((2 ^ (32 * K) : Nat) : Int) = (2 : Int) ^ (32 * K) := by simp
  omega
theorem Mag.list {w : World} {v : Value} {t : Int} (h : Mag w v t) (hf : Fits t) : ∃ a, WList w v a ∧ Tidy a ∧ wv a = (t.natAbs : Int) ∧ a.length ≤ 70 := by
  obtain ⟨a, h1, h2, h3, h4⟩ := h
  exact ⟨a, h1, h3, h4, h3.wlen h1.2.1 (by rw [h4]; exact fits_words (K := 70) (by unfold Fits at hf; omega))⟩
abbrev SM (N M : Nat) (v u : Value) (x y : Bool) (w : World) : Prop := (w.cell? ⟨N, 0, none⟩ = some v ∧ w.cell? ⟨N, 1, none⟩ = some (.bool x)) ∧ (w.cell? ⟨M, 0, none⟩ = some u ∧ w.cell? ⟨M, 1, none⟩ = some (.bool y))
theorem SM.call {N M : Nat} {v u : Value} {x y : Bool} {w w' : World} (h : SM N M v u x y w) (hb : Below w.heap.size w w') : SM N M v u x y w' :=
  ⟨⟨cell_later hb h.1.1, cell_later hb h.1.2⟩, ⟨cell_later hb h.2.1, cell_later hb h.2.2⟩⟩
def TotP (t : Int) (w : World) (e : Ending) (w' : World) : Prop := ∃ v, e = .returned (.tuple #[.bool (decide (t < 0)), v]) ∧ Mag w' v t ∧ Below w.heap.size w w'
theorem tot_same {s t : Int} (h : decide (s < 0) = decide (t < 0)) : decide (s + t < 0) = decide (s < 0) ∧ ((s + t).natAbs : Int) = (s.natAbs : Int) + t.natAbs := by
  rw [decide_eq_decide] at h
  rw [decide_eq_decide]
  constructor <;> omega
set_option maxHeartbeats 1000000 in
theorem totals_same (w : World) (N M f g : Nat) (s t : Int) (hs : SumAt w N f s) (ho : SumAt w M g t) (h : decide (s < 0) = decide (t < 0)) :
    Calls Tryd.prog 45 #[.pointer (some ⟨N, 0, none⟩), .pointer (some ⟨M, 0, none⟩)] w (TotP (s + t) w) := by
  obtain ⟨v, c1, m1, k1⟩ := hs
  obtain ⟨u, c2, m2, k2⟩ := ho
  obtain ⟨a, l1, -, e1, n1⟩ := m1.list k1.2.2
  obtain ⟨b, l2, -, e2, n2⟩ := m2.list k2.2.2
  have HA := Lib.hid (fun w1 (h : Below w.heap.size w w1) => add_any v u a b w1 (l1.below h) (l2.below h) (by omega) (by omega))
  obtain ⟨q1, q2⟩ := tot_same h
  rw [e1, e2, ← q2] at HA
  unfold TotP
  rw [q1]
  rw [← h] at c2
  generalize decide (s < 0) = x at *
  have hS : SM N M v u x x w := ⟨⟨c1.reads.1, c1.reads.2.1⟩, ⟨c2.reads.1, c2.reads.2.1⟩⟩
  obtain ⟨p, c, rfl⟩ := l1.shape
  obtain ⟨q, d, rfl⟩ := l2.shape
  generalize s + t = r at *
  generalize a.length = al at *
  generalize b.length = bl at *
  have hxx : (x == x) = true := by simp
  clear c1 c2 m1 m2 k1 k2 l1 l2 e1 e2 q1 q2 h
  go_enter Tryd.func45, Tryd.ntmps45
  go_upto_region 1 with fail
  have hk : SM N M (.slice p al c) (.slice q bl d) x x w.drew := hS.call (Below.refl _ _).drew
  go_region_held3 (fun w' => SM N M (.slice p al c) (.slice q bl d) x x w') (with_reducible exact hk) (fail)
  go_upto_region 2 with fail
  have hk : SM N M (.slice p al c) (.slice q bl d) x x w.drew.drew := hS.call ((Below.refl _ _).drew.drew)
  have hBw : Below w.heap.size w w.drew.drew := (Below.refl _ _).drew.drew
  go_region_held3 (fun w' => SM N M (.slice p al c) (.slice q bl d) x x w') (with_reducible exact hk)
    ((go_at_call 75; refine (HA.out _ hBw).mono ?_; rintro e w1 ⟨y, cc, rfl, g1, g2, g3, g4, g5, g6⟩; have HM := Lib.hid (show Mag w1 y r from ⟨cc, own_wlist g1 g2 (by omega), Typed.own g1, g3, g4⟩); have hk := hk.call g6; have HE := Lib.hid (below_then hBw g6); obtain ⟨p3, c3, rfl⟩ := (own_wlist g1 g2 (by omega)).shape; clear g1 g2 g3 g4 g5 g6 hBw))
  clear hk hS
  go_wp2_with fail
  go_ret2
  exact ⟨_, rfl, HM.out, HE.out⟩
theorem ret_bv {a b : Bool} {v : Value} (h : a = b) : Ending.returned (.tuple #[.bool a, v]) = .returned (.tuple #[.bool b, v]) := by rw [h]
theorem tot_more {s t : Int} (h : decide (s < 0) ≠ decide (t < 0)) (hle : t.natAbs ≤ s.natAbs) : decide (s + t < 0) = (decide (s < 0) && decide ((s + t).natAbs ≠ 0)) ∧ ((s + t).natAbs : Int) = (s.natAbs : Int) - t.natAbs := by
  rw [Ne, decide_eq_decide] at h
  constructor
  · rw [← Bool.decide_and, decide_eq_decide]; omega
  · omega
theorem tot_less {s t : Int} (h : decide (s < 0) ≠ decide (t < 0)) (hlt : s.natAbs < t.natAbs) : decide (s + t < 0) = decide (t < 0) ∧ ((s + t).natAbs : Int) = (t.natAbs : Int) - s.natAbs := by
  rw [Ne, decide_eq_decide] at h
  rw [decide_eq_decide]
  constructor <;> omega
theorem wlist_len {w : World} {p : Option Addr} {l c : Nat} {a : List Int} {z : Nat} (h : WList w (.slice p l c) a) (ht : Tidy a) (hz : wv a = (z : Int)) : l = 0 ↔ z = 0 := by
  have := isNat_len (w := w) (p := p) (l := l) (c := c) (z := (z : Int)) ⟨a, h, ht, hz⟩
  omega
set_option maxHeartbeats 1000000 in
theorem totals_more (w : World) (N M f g : Nat) (s t : Int) (hs : SumAt w N f s) (ho : SumAt w M g t) (h : decide (s < 0) ≠ decide (t < 0)) (hle : t.natAbs ≤ s.natAbs) :
    Calls Tryd.prog 45 #[.pointer (some ⟨N, 0, none⟩), .pointer (some ⟨M, 0, none⟩)] w (TotP (s + t) w) := by
  obtain ⟨v, c1, m1, k1⟩ := hs
  obtain ⟨u, c2, m2, k2⟩ := ho
  obtain ⟨a, l1, -, e1, n1⟩ := m1.list k1.2.2
  obtain ⟨b, l2, -, e2, n2⟩ := m2.list k2.2.2
  have HA := Lib.hid (fun w1 (h : Below w.heap.size w w1) => sub_any v u a b w1 (l1.below h) (l2.below h) (by omega))
  obtain ⟨q1, q2⟩ := tot_more h hle
  rw [e1, e2, ← q2] at HA
  have hxy : (decide (s < 0) == decide (t < 0)) = false := by simpa using h
  unfold TotP
  rw [q1]
  generalize decide (s < 0) = x at *
  generalize decide (t < 0) = z at *
  have hS : SM N M v u x z w := ⟨⟨c1.reads.1, c1.reads.2.1⟩, ⟨c2.reads.1, c2.reads.2.1⟩⟩
  obtain ⟨p, c, rfl⟩ := l1.shape
  obtain ⟨q, d, rfl⟩ := l2.shape
  generalize s + t = r at *
  generalize a.length = al at *
  generalize b.length = bl at *
  clear c1 c2 m1 m2 k1 k2 l1 l2 e1 e2 q1 q2 h hle
  go_enter Tryd.func45, Tryd.ntmps45
  go_upto_region 1 with fail
  have hk : SM N M (.slice p al c) (.slice q bl d) x z w.drew := hS.call (Below.refl _ _).drew
  go_region_held3 (fun w' => SM N M (.slice p al c) (.slice q bl d) x z w') (with_reducible exact hk) (fail)
  go_upto_region 3 with fail
  have hk : SM N M (.slice p al c) (.slice q bl d) x z w.drew.drew := hS.call ((Below.refl _ _).drew.drew)
  have hBw : Below w.heap.size w w.drew.drew := (Below.refl _ _).drew.drew
  go_region_held3 (fun w' => SM N M (.slice p al c) (.slice q bl d) x z w') (with_reducible exact hk)
    ((go_at_call 76; refine (HA.out _ hBw).mono ?_; rintro e w1 ⟨y, rfl, y', cc, e', g1, g2, g3, g4, g5, g6⟩; obtain rfl : y = y' := (by simpa using e'); have HM := Lib.hid (show Mag w1 y r from ⟨cc, own_wlist g1 g2 (by omega), Typed.own g1, g3, g4⟩); have hk := hk.call g6; have HE := Lib.hid (below_then hBw g6); have hwl := own_wlist g1 g2 (by omega); obtain ⟨p3, c3, rfl⟩ := hwl.shape; have HL := Lib.hid (wlist_len hwl g3 g4); generalize cc.length = yl at *; clear g1 g2 g3 g4 g5 g6 hBw hwl e'))
  obtain ⟨⟨hr1, hr2⟩, -⟩ := hk
  clear hS
  cases x
  · go_wp2_with fail
    go_ret2
    exact ⟨_, rfl, HM.out, HE.out⟩
  · go_wp2_with fail
    all_goals
      go_ret2
      exact ⟨_, ret_bv (by have := HL.out; rw [Bool.true_and, decide_eq_decide]; omega), HM.out, HE.out⟩
set_option maxHeartbeats 1000000 in
theorem totals_less (w : World) (N M f g : Nat) (s t : Int) (hs : SumAt w N f s) (ho : SumAt w M g t) (h : decide (s < 0) ≠ decide (t < 0)) (hlt : s.natAbs < t.natAbs) :
    Calls Tryd.prog 45 #[.pointer (some ⟨N, 0, none⟩), .pointer (some ⟨M, 0, none⟩)] w (TotP (s + t) w) := by
  obtain ⟨v, c1, m1, k1⟩ := hs
  obtain ⟨u, c2, m2, k2⟩ := ho
  obtain ⟨a, l1, -, e1, n1⟩ := m1.list k1.2.2
  obtain ⟨b, l2, -, e2, n2⟩ := m2.list k2.2.2
  have HA0 := Lib.hid (fun w1 (h : Below w.heap.size w w1) => sub_none v u a b w1 (l1.below h) (l2.below h) (by omega))
  have HA := Lib.hid (fun w1 (h : Below w.heap.size w w1) => sub_any u v b a w1 (l2.below h) (l1.below h) (by omega))
  obtain ⟨q1, q2⟩ := tot_less h hlt
  rw [e1, e2, ← q2] at HA
  have hxy : (decide (s < 0) == decide (t < 0)) = false := by simpa using h
  unfold TotP
  rw [q1]
  generalize decide (s < 0) = x at *
  generalize decide (t < 0) = z at *
  have hS : SM N M v u x z w := ⟨⟨c1.reads.1, c1.reads.2.1⟩, ⟨c2.reads.1, c2.reads.2.1⟩⟩
  obtain ⟨p, c, rfl⟩ := l1.shape
  obtain ⟨q, d, rfl⟩ := l2.shape
  generalize s + t = r at *
  generalize a.length = al at *
  generalize b.length = bl at *
  clear c1 c2 m1 m2 k1 k2 l1 l2 e1 e2 q1 q2 h hlt
  go_enter Tryd.func45, Tryd.ntmps45
  go_upto_region 1 with fail
  have hk : SM N M (.slice p al c) (.slice q bl d) x z w.drew := hS.call (Below.refl _ _).drew
  go_region_held3 (fun w' => SM N M (.slice p al c) (.slice q bl d) x z w') (with_reducible exact hk) (fail)
  go_upto_region 3 with fail
  have hk : SM N M (.slice p al c) (.slice q bl d) x z w.drew.drew := hS.call ((Below.refl _ _).drew.drew)
  have hBw : Below w.heap.size w w.drew.drew := (Below.refl _ _).drew.drew
  go_region_held3 (fun w' => SM N M (.slice p al c) (.slice q bl d) x z w') (with_reducible exact hk)
    ((go_at_call 76; refine (HA0.out _ hBw).mono ?_; rintro e w1 ⟨rfl, g6⟩; have hk := hk.call g6; have HE := Lib.hid (below_then hBw g6); clear g6 hBw))
  clear hS HA0
  go_upto_region 6 with fail
  have hk : SM N M (.slice p al c) (.slice q bl d) x z w1.drew := hk.call (Below.refl _ _).drew
  have hBw : Below w.heap.size w w1.drew := HE.out.drew
  go_region_held3 (fun w' => SM N M (.slice p al c) (.slice q bl d) x z w') (with_reducible exact hk)
    ((go_at_call 76; refine (HA.out _ hBw).mono ?_; rintro e w2 ⟨y, rfl, y', cc, e', g1, g2, g3, g4, g5, g6⟩; obtain rfl : y = y' := (by simpa using e'); have HM := Lib.hid (show Mag w2 y r from ⟨cc, own_wlist g1 g2 (by omega), Typed.own g1, g3, g4⟩); have hk := hk.call g6; have HE := Lib.hid (below_then hBw g6); have hwl := own_wlist g1 g2 (by omega); obtain ⟨p3, c3, rfl⟩ := hwl.shape; generalize cc.length = yl at *; clear g1 g2 g3 g4 g5 g6 hBw hwl e'))
  obtain ⟨-, ⟨hr1, hr2⟩⟩ := hk
  go_wp2_with fail
  go_ret2
  exact ⟨_, rfl, HM.out, HE.out⟩
theorem totals_any (w : World) (N M f g : Nat) (s t : Int) (hs : SumAt w N f s) (ho : SumAt w M g t) :
    Calls Tryd.prog 45 #[.pointer (some ⟨N, 0, none⟩), .pointer (some ⟨M, 0, none⟩)] w (TotP (s + t) w) := by
  by_cases h : decide (s < 0) = decide (t < 0)
  · exact totals_same w N M f g s t hs ho h
  · by_cases hle : t.natAbs ≤ s.natAbs
    · exact totals_more w N M f g s t hs ho h hle
    · exact totals_less w N M f g s t hs ho h (by omega)
/-- Join where there is room, and where there is none. -/
def JoinP (N f : Nat) (t : Int) (w : World) (e : Ending) (w' : World) : Prop := e = .returned (.bool true) ∧ SumAt w' N f t ∧ w.grownBy w' (some N)
def OverP (w : World) (e : Ending) (w' : World) : Prop := e = .returned (.bool false) ∧ Below w.heap.size w w'
set_option maxHeartbeats 1000000 in
theorem pjoin_over (w : World) (N M f g : Nat) (s t : Int) (hs : SumAt w N f s) (ho : SumAt w M g t) (hr : ¬ Fits (s + t)) :
    Calls Tryd.prog 21 #[.pointer (some ⟨N, 0, none⟩), .pointer (some ⟨M, 0, none⟩)] w (OverP w) := by
  have HT := Lib.hid (totals_any w N M f g s t hs ho)
  have H1 := Lib.hid (show Calls Tryd.prog 38 #[.pointer (some ⟨N, 0, none⟩)] w fun e w' => e = .returned (.bool true) ∧ w = w' by obtain ⟨v, h, -⟩ := hs; exact usable_any w N _ _ _ _ h)
  have H2 := Lib.hid (show Calls Tryd.prog 38 #[.pointer (some ⟨M, 0, none⟩)] w fun e w' => e = .returned (.bool true) ∧ w = w' by obtain ⟨v, h, -⟩ := ho; exact usable_any w M _ _ _ _ h)
  unfold Fits at hr
  generalize s + t = r at *
  have HB := Lib.hid (fun w1 v a (h : WList w1 v a) (hz : wv a = (r.natAbs : Int)) => show Calls Tryd.prog 46 #[v] w1 fun e w' => e = .returned (.int .i64 (bitsZ (r.natAbs : Int))) ∧ w1 = w' by rw [← hz]; exact bits_any v a w1 h)
  generalize bitsZ (r.natAbs : Int) = L at *
  have hL : (2240 : Int) < (L : Int) := by omega
  clear hs ho hr
  unfold OverP
  go_enter Tryd.func21, Tryd.ntmps21
  go_wp2_with fail
  refine (H1.out).mono ?_; rintro e w1 ⟨rfl, rfl⟩
  go_wp2_with fail
  refine (H2.out).mono ?_; rintro e w1 ⟨rfl, rfl⟩
  go_wp2_with fail
  refine (HT.out).mono ?_; rintro e w1 ⟨v, rfl, ⟨a, ha, -, -, hz⟩, hb⟩
  have HB1 := Lib.hid (HB.out w1 v a ha hz)
  have HE := Lib.hid hb
  obtain ⟨p, c, rfl⟩ := ha.shape
  clear ha hz hb HB HT H1 H2
  go_wp2_with fail
  refine (HB1.out).mono ?_; rintro e w2 ⟨rfl, rfl⟩
  go_wp2_with fail
  go_ret
  exact ⟨rfl, HE.out⟩
theorem shut_sum {w : World} {N f g : Nat} {v v' : Value} {x b' : Bool} {t : Int} (h : Cells4 w N v x f true) (hm : Mag w v' t) (hb : b' = decide (t < 0)) (hg : Good g t) :
    SumAt (((w.setCell ⟨N, 1, none⟩ (.bool b')).setCell ⟨N, 0, none⟩ v').setCell ⟨N, 2, none⟩ (.int .u8 g)) N g t ∧ w.grownBy (((w.setCell ⟨N, 1, none⟩ (.bool b')).setCell ⟨N, 0, none⟩ v').setCell ⟨N, 2, none⟩ (.int .u8 g)) (some N) := by
  have h3 := grown_then (grown_then (grown_set w N 1 (.bool b')) (grown_set _ N 0 v')) (grown_set _ N 2 (.int .u8 g))
  subst hb
  exact ⟨⟨v', h.set v' _ g, hm.grown h h3, hg⟩, h3⟩
end Go.Proofs.YtboinjkeaffboaaDoor
