/- What slices.Reverse does to a row of bytes of the call's own. -/
import Derived.Test.YtpfcacjcikhamaaDoorNatt
import Derived.RegionTactic
import Derived.ChangeAlike
namespace Go.Proofs.YtpfcacjcikhamaaDoor
set_option maxRecDepth 100000
open Go.RowKit
set_option linter.unusedVariables false
/-- A row of bytes of the call's own. -/
def BRow (w : World) (B g cap : Nat) (a : List Int) : Prop := w.ownsRow B 5 1 (.slice (some ⟨g, 0, none⟩) a.length cap) a.length (a.map (Value.int .u8))
theorem BRow.facts {w : World} {B g cap : Nat} {a : List Int} (h : BRow w B g cap a) : B ≤ g ∧ g < w.heap.size ∧ a.length ≤ cap ∧ cap ≤ maxLen ∧ ∀ j, j < a.length → w.cell? ⟨g, j, none⟩ = some (.int .u8 (a.getD j 0)) ∧ w.frozen? ⟨g, j, none⟩ = false := by
  have h0 := h
  obtain ⟨hl, hh⟩ := h
  have h1 := World.ownsRow.lt h0 g rfl
  refine ⟨h1.1, h1.2, ?_, ?_, fun j hj => ⟨?_, World.ownsRow.frozenAt h0 j⟩⟩
  · rcases hh with ⟨e, _⟩ | ⟨g', cap', cur, e, _, _, hc, _⟩
    · simp at e
    · simp at e; omega
  · rcases hh with ⟨e, _⟩ | ⟨g', cap', cur, e, _, _, _, hc, _⟩
    · simp at e
    · simp at e; omega
  · rw [World.ownsRow.cellAt h0 j (by omega)]
    simp [List.getD, hj]
theorem BRow.set {w : World} {B g cap : Nat} {a : List Int} (h : BRow w B g cap a) (j : Nat) (x : Int) : BRow (w.setCell ⟨g, j, none⟩ (.int .u8 x)) B g cap (a.set j x) := by
  have := (World.ownsRow.stored h j (.int .u8 x)).1
  simpa [BRow, List.map_set] using this
theorem BRow.drewN {w : World} {B g cap : Nat} {a : List Int} (h : BRow w B g cap a) (n : Nat) : BRow (w.drewN n) B g cap a := h
theorem BRow.cut {w : World} {B g cap n : Nat} {a : List Int} (h : BRow w B g cap a) (hn : n ≤ a.length) : BRow w B g cap (a.take n) := by
  have hl : (a.take n).length = n := by rw [List.length_take]; omega
  obtain ⟨k1, k2⟩ := h
  refine ⟨by simp, ?_⟩
  rcases k2 with ⟨e, _⟩ | ⟨g', cap', cur, e, q1, q2, q3, q4, q5, q6⟩
  · simp at e
  · refine .inr ⟨g', cap', cur, by simp at e ⊢; exact ⟨e.1, e.2⟩, q1, q2, by omega, q4, q5, ?_⟩
    have := congrArg (List.take n) q6
    rw [List.take_take] at this
    rw [hl, show n * 1 = min n (a.length * 1) from by omega, this, List.map_take]
/-- The first i and the last i cells are exchanged. -/
def RevRel (a : List Int) (i : Nat) (out : List Int) : Prop := out.length = a.length ∧ ∀ k, k < a.length → out.getD k 0 = if k < i ∨ a.length ≤ k + i then a.getD (a.length - 1 - k) 0 else a.getD k 0
theorem RevRel.start (a : List Int) : RevRel a 0 a := ⟨rfl, fun k hk => by rw [if_neg (by omega)]⟩
theorem getD_set_if {l : List Int} {j i : Nat} {x : Int} (h : j < l.length) : (l.set j x).getD i 0 = if i = j then x else l.getD i 0 := by
  by_cases e : i = j
  · subst e; rw [if_pos rfl]; exact getD_set_self h
  · rw [if_neg e]; exact getD_set_other (fun q => e q.symm)
theorem RevRel.step {a out : List Int} {i : Nat} (h : RevRel a i out) (hi : 2 * i + 1 < a.length) (x y : Int) (hx : out.getD i 0 = x) (hy : out.getD (a.length - 1 - i) 0 = y) :
    RevRel a (i + 1) ((out.set i y).set (a.length - 1 - i) x) ∧ (out.set i y).set (a.length - 1 - i) x = (out.set (a.length - 1 - i) x).set i y := by
  obtain ⟨h1, h2⟩ := h
  have hxa := h2 i (by omega)
  have hya := h2 (a.length - 1 - i) (by omega)
  rw [if_neg (by omega), hx] at hxa
  rw [if_neg (by omega), hy] at hya
  refine ⟨⟨by simpa using h1, fun k hk => ?_⟩, List.set_comm _ _ (by omega)⟩
  rw [getD_set_if (by simp; omega), getD_set_if (by omega)]
  by_cases e1 : k = a.length - 1 - i
  · subst e1
    rw [if_pos rfl, if_pos (by omega), hxa]
    congr 1; omega
  · rw [if_neg e1]
    by_cases e2 : k = i
    · subst e2
      rw [if_pos rfl, if_pos (by omega), hya]
    · rw [if_neg e2, h2 k hk]
      by_cases e3 : k < i ∨ a.length ≤ k + i
      · rw [if_pos e3, if_pos (by omega)]
      · rw [if_neg e3, if_neg (by omega)]
theorem RevRel.stop {a out : List Int} {i : Nat} (h : RevRel a i out) (hi : a.length ≤ 2 * i + 1) : out = a.reverse := by
  obtain ⟨h1, h2⟩ := h
  apply List.ext_getElem (by simpa using h1)
  intro k hk1 hk2
  have hk : k < a.length := by omega
  have e := h2 k hk
  have e1 : out.getD k 0 = out[k] := by simp [List.getD, hk1]
  rw [← e1, e, List.getElem_reverse]
  have e2 : a.getD (a.length - 1 - k) 0 = a[a.length - 1 - k] := by simp [List.getD, show a.length - 1 - k < a.length from by omega]
  by_cases e3 : k < i ∨ a.length ≤ k + i
  · rw [if_pos e3, e2]
  · rw [if_neg e3]
    have e4 : a.length - 1 - k = k := by omega
    simp only [e4] at e2
    rw [e2]; simp only [e4]
set_option maxHeartbeats 1000000 in
theorem rev_any (B g cap : Nat) (a : List Int) (w : World) (hr : BRow w B g cap a) (la : a.length ≤ 1099511627776) :
    Calls Tryd.prog 61 #[.slice (some ⟨g, 0, none⟩) a.length cap] w fun e w' => e = .returned (.tuple #[]) ∧ BRow w' B g cap a.reverse ∧ Below B w w' := by
  have hg := hr.facts.1
  have hcap := hr.facts.2.2.1
  have HR := Lib.hid hr
  clear hr
  go_enter Tryd.func61, Tryd.ntmps61
  go_wp2_with fail
  go_loopw [2, 3] (fun i j wr => ∃ (k : Nat) (out : List Int), 2 * k ≤ a.length + 1 ∧ i = .int .i64 k ∧ j = .int .i64 ((a.length : Int) - 1 - k) ∧ Hid (RevRel a k out) ∧ Hid (BRow wr B g cap out) ∧ Hid (Below B w wr)) (fun i _ _ => a.length - (intOf i).toNat)
  case atStart => exact ⟨0, a, by omega, rfl, by simp, Lib.hid (RevRel.start a), HR, Lib.hid (Below.refl _ _)⟩
  case round =>
    obtain ⟨k, out, hk, rfl, rfl, hO, hS, hB⟩ := hrel
    by_cases hlt : 2 * k + 1 < a.length
    · have hlen := Lib.hid hO.out.1
      obtain ⟨m, hm⟩ : ∃ m, a.length - 1 - k = m := ⟨_, rfl⟩
      obtain ⟨ho1, ho2⟩ := hS.out.facts.2.2.2.2 k (by have := hlen.out; omega)
      obtain ⟨hp1, hp2⟩ := hS.out.facts.2.2.2.2 m (by have := hlen.out; omega)
      have hst := Lib.hid (fun (x y : Int) (hx : out.getD k 0 = x) (hy : out.getD m 0 = y) => (by have := hO.out.step hlt x y hx (by rw [hm]; exact hy); rwa [hm] at this : RevRel a (k + 1) ((out.set k y).set m x) ∧ (out.set k y).set m x = (out.set m x).set k y))
      generalize out.getD k 0 = x at *
      generalize out.getD m 0 = y at *
      have hst2 := Lib.hid (hst.out x y rfl rfl)
      have hi0 : (0 : Int) ≤ (a.length : Int) - 1 - k := by omega
      have hi1 : (a.length : Int) - 1 - k < a.length := by omega
      have hiN : ((a.length : Int) - 1 - k).toNat = m := by omega
      have hlk : (k : Int) < (a.length : Int) - 1 - k := by omega
      have HM := Lib.hid hm
      have hn1 : ¬ k = m := by omega
      have hn2 : ¬ m = k := by omega
      clear hm hst hO
      go_wp2_with fail
      go_region
      go_wp2_with fail
      go_roundw
      case rel =>
        exact ⟨k + 1, _, by omega, by go_num, by go_num, Lib.hid hst2.out.1, Lib.hid (((hS.out.set k y).set m x).drewN 1), Lib.hid (below_drewN ((hB.out.setCell hg _).setCell hg _) 1)⟩
      case measure => simp [intOf]; omega
    · have hE := Lib.hid (hO.out.stop (by omega))
      have hlk : ¬ (k : Int) < (a.length : Int) - 1 - k := by omega
      clear hO
      go_wp2_with fail
      go_end0
      exact ⟨rfl, by rw [← hE.out]; exact hS.out, hB.out⟩
end Go.Proofs.YtpfcacjcikhamaaDoor
