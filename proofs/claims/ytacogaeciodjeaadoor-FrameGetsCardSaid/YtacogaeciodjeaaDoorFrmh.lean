/- The program's frames: its function value, walked within the fence that asks nothing, whatever the rounds. -/
import Derived.Test.YtacogaeciodjeaaDoorFrmg
import Derived.RangeFuncNested
import Derived.RangeFuncBound
import Derived.RangeFuncCalls
import Derived.RangeFuncLeaves
import Derived.RangeFuncBox
import Derived.Shelf.Abstract
import Derived.Shelf.RegionOpen
import Derived.WalkKit
import Derived.OwnWalkIn
import Derived.TacticsInMore
import Derived.LoopNIn
import Derived.LoopIn
namespace Go.Proofs.YtacogaeciodjeaaDoor
set_option maxRecDepth 100000
open Go.RowKit Go.Shelf
set_option linter.unusedVariables false
def lenV : Value → Nat
  | .slice _ n _ => n
  | _ => 0
set_option maxHeartbeats 4000000 in
theorem frames1_in (n : Nat) (h1 : 1 ≤ n) (l Bn : Nat) (a : Option Addr) (cap : Nat) (b : List Int) (w : World) (hv : Ints .u8 w (.slice a b.length cap) b) (hb : Byt b) (hl : b.length ≤ 3000) (hT : Fours w)
    (J : List (List Int) → Nat → World → Prop) (Jx : List (List Int) → Nat → Nat → World → Prop)
    (hJw : ∀ P A W, J P A W → AllSt b P A ∧ Below w.heap.size w W)
    (hJb : ∀ P A W W', J P A W → Below W.heap.size W W' → J P A W')
    (hY : ∀ P A W u, J P A W → A < b.length → BOwn W w.heap.size u (getN (b.drop A)).1 → YieldAt Fence.wide (n - 1) Tryd.prog l #[u, .int .i64 ((getN (b.drop A)).2.2 : Nat)] W fun r W' =>
      ((getN (b.drop A)).2.2 = 0 ∧ r = .returned (.bool true) ∧ J (P ++ [(getN (b.drop A)).1]) (A + (getN (b.drop A)).2.1) W') ∨ ((getN (b.drop A)).2.2 ≠ 0 ∧ r = .returned (.bool false) ∧ Jx P A (getN (b.drop A)).2.2 W'))
    (W : World) (hBn : W.cell? ⟨Bn, 0, none⟩ = some (.slice a b.length cap)) (h0 : J [] 0 W) :
    CallsIn Fence.wide n Tryd.prog 23 #[.func (.yield l) #[] #[], .pointer (some ⟨Bn, 0, none⟩)] W fun e W' => (∃ v, e = .returned v) ∧
      ((∃ P A, allN b = (P, A, 0) ∧ J P A W') ∨ (∃ P A k, allN b = (P, A, k) ∧ k ≠ 0 ∧ Jx P A k W')) := by
  have HV := Lib.hid hv
  have HB := Lib.hid hb
  have HT := Lib.hid hT
  have HJw := Lib.hid hJw
  have HJb := Lib.hid hJb
  have HY := Lib.hid hY
  have H0 := Lib.hid h0
  clear hv hb hT hJw hJb hY h0
  refine callsIn_of_wp Tryd.func23 rfl trivial ?_ rfl
  simp only [Tryd.ntmps23, List.size_toArray, List.length_cons, List.length_nil, Nat.reduceAdd, Nat.reduceSub, Array.replicate_succ, Array.replicate_zero, List.push_toArray, List.append_toArray, List.nil_append, List.cons_append]
  gi_wp2
  gi_loopw [3] (fun v wr => ∃ (P : List (List Int)) (A : Nat), (∃ u c, v = .slice u (b.length - A) c) ∧ Hid (J P A wr ∧ Ints .u8 w v (b.drop A))) (fun v wr => lenV v)
  case atStart => exact ⟨[], 0, ⟨_, _, rfl⟩, Lib.hid ⟨H0.out, HV.out⟩⟩
  case round =>
    obtain ⟨P, A, ⟨u, c, rfl⟩, hS⟩ := hrel
    have hall := (HJw.out _ _ _ hS.out.1).1
    have hbw := (HJw.out _ _ _ hS.out.1).2
    have hA := hall.1
    by_cases hlt : A < b.length
    · have i1 : 0 < b.length - A := by omega
      have i1' : (0 : Int) < ((b.length - A : Nat) : Int) := by omega
      have hdl : (b.drop A).length = b.length - A := List.length_drop
      have HG := Lib.hid (pget_any _ (b.drop A) wr (hS.out.2.below hbw) (byt_drop HB.out A) (by rw [hdl]; omega) (HT.out.call hbw))
      have HYA := Lib.hid (fun W u (hj : J P A W) ho => HY.out P A W u hj hlt ho)
      have HErr := Lib.hid (fun h => hall.err hlt h)
      have hfit := getN_fit (byt_drop HB.out A)
      have HTl := Lib.hid (fun k (hk : k ≤ (b.drop A).length) => tail_any (a := u) (cap := c) (w := w) (by rw [hdl]; exact hS.out.2) hk)
      rw [hdl] at hfit
      rw [hdl] at HTl
      have HD := Lib.hid (show ∀ k, (b.drop A).drop k = b.drop (A + k) from fun k => by rw [List.drop_drop])
      unfold GetP at HG
      generalize getN (b.drop A) = R at *
      obtain ⟨x, k, e⟩ := R
      simp only at HG HYA HErr hfit
      have HFit := Lib.hid hfit
      clear hfit hall hdl
      gi_wp2_with (refine ⟨trivial, ?_⟩; gi_at_call 10; refine (callsIn_wide.2 HG.out).mono ?_; rintro r w1 ⟨⟨v1, rfl, ho⟩, hb1⟩; have HB1 := Lib.hid hb1; obtain ⟨fn, tmps, assign, body, hy, hR⟩ := HYA.out w1 v1 (HJb.out _ _ _ _ hS.out.1 hb1) (own_mono ho hbw.size); have HR := Lib.hid hR; clear ho hb1 hR HG)
      refine (HR.out).mono ?_
      rintro r W3 (⟨he, rfl, hj3⟩ | ⟨he, rfl, hj3⟩)
      · subst he
        obtain ⟨u2, c2, hop, hi2⟩ := HTl.out k (HFit.out.1 rfl).1
        have hk8 : 0 < k := by have := (HFit.out.1 rfl).2.1; omega
        have hkl : k ≤ b.length - A := (HFit.out.1 rfl).1
        have hsub : b.length - A - k = b.length - (A + k) := by omega
        rw [hsub, HD.out] at hi2
        rw [hsub] at hop
        have HZ := Lib.hid (And.intro hj3 hi2)
        clear hj3 hi2 HFit HErr HYA HTl hy HR
        gi_wp2
        go_roundw
        case rel => exact ⟨P ++ [x], A + k, ⟨_, _, rfl⟩, HZ⟩
        case measure => simp [lenV]; omega
      · have he' : ((e : Int) != 0) = true := by simp; omega
        have HZ := Lib.hid hj3
        clear hj3
        gi_wp2
        refine bodyPost_ret (results_none rfl _ _ _) rfl ?_
        exact ⟨⟨_, rfl⟩, .inr ⟨P, A, e, HErr.out he, he, HZ.out⟩⟩
    · have HE := Lib.hid (hall.stop hlt)
      have i1 : b.length - A = 0 := by omega
      gi_wp2
      go_end0
      exact ⟨⟨_, rfl⟩, .inl ⟨P, A, HE.out, hS.out.1⟩⟩
end Go.Proofs.YtacogaeciodjeaaDoor
