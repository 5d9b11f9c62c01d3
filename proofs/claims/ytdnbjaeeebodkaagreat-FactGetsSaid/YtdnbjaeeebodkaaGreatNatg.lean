/- What Add and Sub of package nat return. -/
import Derived.Test.YtdnbjaeeebodkaaGreatNate
namespace Go.Proofs.YtdnbjaeeebodkaaGreat
set_option maxRecDepth 100000
open Go.RowKit
set_option linter.unusedVariables false
theorem wvN_set_same {l : List Int} {j : Nat} {x : Int} : wvN (l.set j x) j = wvN l j := wvN_congr (fun i hi => by rw [List.getD, List.getD, List.getElem?_set_ne (by omega)])
theorem getD_set_self {l : List Int} {j : Nat} {x : Int} (h : j < l.length) : (l.set j x).getD j 0 = x := by simp [List.getD, h]
theorem getD_set_other {l : List Int} {i j : Nat} {x : Int} (h : j ≠ i) : (l.set j x).getD i 0 = l.getD i 0 := by rw [List.getD, List.getD, List.getElem?_set_ne h]
theorem wvN_set_succ {l : List Int} {j : Nat} {x : Int} (h : j < l.length) : wvN (l.set j x) (j + 1) = wvN l j + x * 4294967296 ^ j := by
  rw [wvN, wvN_set_same, getD_set_self h]
theorem Wd.set {l : List Int} (hd : Wd l) {j : Nat} {x : Int} (h1 : 0 ≤ x) (h2 : x ≤ 4294967295) : Wd (l.set j x) := by
  intro y hy
  rcases List.mem_or_eq_of_mem_set hy with h | h
  · exact hd y h
  · subst h; exact ⟨h1, h2⟩
theorem Wd.zeros (n : Nat) : Wd (List.replicate n 0) := fun x hx => by have := List.eq_of_mem_replicate hx; omega
def AddRel (a b : List Int) (i : Nat) (out : List Int) (c : Int) : Prop := wvN a i + wvN b i = wvN out i + 4294967296 ^ i * c ∧ Wd out ∧ out.length = a.length + 1 ∧ 0 ≤ c ∧ c ≤ 1
theorem AddRel.start (a b : List Int) : AddRel a b 0 (List.replicate (a.length + 1) 0) 0 := ⟨by simp [wvN], Wd.zeros _, by simp, by omega, by omega⟩
theorem AddRel.step {a b out : List Int} {i : Nat} {c : Int} (ha : Wd a) (hb : Wd b) (h : AddRel a b i out c) (hi : i < a.length) (x y : Int) (hx : a.getD i 0 = x) (hy : b.getD i 0 = y) :
    AddRel a b (i + 1) (out.set i ((x + y + c) % 4294967296)) ((x + y + c) / 4294967296) := by
  obtain ⟨h1, h2, h3, h4, h5⟩ := h
  have h6 := ha.getD i
  have h7 := hb.getD i
  rw [hx] at h6
  rw [hy] at h7
  refine ⟨?_, h2.set (by omega) (by omega), by simpa using h3, by omega, by omega⟩
  rw [wvN_set_succ (by omega), wvN, wvN, hx, hy, q_succ]
  have e := wcarry_step (x + y + c) (4294967296 ^ i)
  have e1 : (x + y + c) * 4294967296 ^ i = x * 4294967296 ^ i + y * 4294967296 ^ i + c * 4294967296 ^ i := by rw [Int.add_mul, Int.add_mul]
  have e2 : 4294967296 ^ i * 4294967296 * ((x + y + c) / 4294967296) = (x + y + c) / 4294967296 * (4294967296 ^ i * 4294967296) := Int.mul_comm _ _
  have e3 : 4294967296 ^ i * c = c * 4294967296 ^ i := Int.mul_comm _ _
  omega
theorem AddRel.stop {a b out : List Int} {c : Int} (h : AddRel a b a.length out c) (hl : b.length ≤ a.length) : wv (out.set a.length c) = wv a + wv b ∧ Wd (out.set a.length c) ∧ (out.set a.length c).length = a.length + 1 := by
  obtain ⟨h1, h2, h3, h4, h5⟩ := h
  refine ⟨?_, h2.set h4 (by omega), by simpa using h3⟩
  have e : (out.set a.length c).length = a.length + 1 := by simpa using h3
  rw [wv, e, wvN_set_succ (by omega), wv, ← wvN_past b hl, h1, Int.mul_comm c]
/-- The row that is filled, and all that was. -/
def Fill (w : World) (g : Nat) (cap : Nat) (out : List Int) (wr : World) : Prop := WRow wr w.heap.size g cap out ∧ Below w.heap.size w wr
theorem Fill.set {w wr : World} {g cap : Nat} {out : List Int} (h : Fill w g cap out wr) (j : Nat) (x : Int) : Fill w g cap (out.set j x) (wr.setCell ⟨g, j, none⟩ (.int .u32 x)) :=
  ⟨h.1.set j x, below_set h.2 h.1.facts.1 j _⟩
theorem Fill.drewN {w wr : World} {g cap : Nat} {out : List Int} (h : Fill w g cap out wr) (n : Nat) : Fill w g cap out (wr.drewN n) := ⟨h.1.drewN n, below_drewN h.2 n⟩
theorem Fill.cells {w wr : World} {g cap : Nat} {out : List Int} (h : Fill w g cap out wr) {j : Nat} (hj : j < out.length) : wr.cell? ⟨g, j, none⟩ = some (.int .u32 (out.getD j 0)) ∧ wr.frozen? ⟨g, j, none⟩ = false := h.1.facts.2.2.2.2 j hj
/-- The end: the noughts of a filled row left out. -/
theorem fill_end {w wr : World} {g cap n : Nat} {out : List Int} {v : Value} {z : Int} {m : Nat} (h : Fill w g cap out wr) (hd : Wd out) (hl : out.length ≤ 1099511627776) (hz : wv out = z) (hm : out.length ≤ m) (hc : Cut (some ⟨g, 0, none⟩) cap out v n) : Fresh w z m (.returned v) wr := by
  have hw := hc.wlist (h.1.wlist hd hl)
  exact ⟨v, _, rfl, hc.own h.1, hw.1.2.1, hw.2.2, hw.2.1.trans hz, by rw [List.length_take]; omega, h.2⟩
theorem own_cases {w : World} {B : Nat} {v : Value} {a : List Int} (h : w.ownsRow B 90 1 v a.length (a.map (Value.int .u32))) :
    (v = .slice none 0 0 ∧ a = []) ∨ ∃ g cap, v = .slice (some ⟨g, 0, none⟩) a.length cap ∧ WRow w B g cap a := by
  rcases h.2 with ⟨rfl, h0⟩ | ⟨g, cap, cur, rfl, _⟩
  · exact .inl ⟨rfl, List.length_eq_zero_iff.1 h0⟩
  · exact .inr ⟨g, cap, rfl, h⟩
def SubRel (a b : List Int) (i : Nat) (out : List Int) (c : Int) : Prop :=
  wvN a i - wvN b i = wvN out i - 4294967296 ^ i * c ∧ Wd out ∧ out.length = a.length ∧ 0 ≤ c ∧ c ≤ 1 ∧ ∀ j, i ≤ j → out.getD j 0 = a.getD j 0
theorem SubRel.start {a : List Int} (b : List Int) (ha : Wd a) : SubRel a b 0 a 0 := ⟨by simp [wvN], ha, rfl, by omega, by omega, fun _ _ => rfl⟩
theorem SubRel.step {a b out : List Int} {i : Nat} {c : Int} (hb : Wd b) (h : SubRel a b i out c) (hi : i < a.length) (x y : Int) (hx : out.getD i 0 = x) (hy : b.getD i 0 = y) :
    SubRel a b (i + 1) (out.set i ((x - y - c) % 4294967296)) (-((x - y - c) / 4294967296)) := by
  obtain ⟨h1, h2, h3, h4, h5, h8⟩ := h
  have h6 := h2.getD i
  have h7 := hb.getD i
  have hxa := h8 i (Nat.le_refl _)
  rw [hx] at h6 hxa
  rw [hy] at h7
  refine ⟨?_, h2.set (by omega) (by omega), by simpa using h3, by omega, by omega, fun j hj => ?_⟩
  · rw [wvN_set_succ (by omega), wvN, wvN, ← hxa, hy, q_succ]
    have e := wcarry_step (x - y - c) (4294967296 ^ i)
    have e1 : (x - y - c) * 4294967296 ^ i = x * 4294967296 ^ i - y * 4294967296 ^ i - c * 4294967296 ^ i := by rw [Int.sub_mul, Int.sub_mul]
    have e2 : 4294967296 ^ i * 4294967296 * (-((x - y - c) / 4294967296)) = -((x - y - c) / 4294967296 * (4294967296 ^ i * 4294967296)) := by rw [Int.mul_neg, Int.mul_comm]
    have e3 : 4294967296 ^ i * c = c * 4294967296 ^ i := Int.mul_comm _ _
    omega
  · rw [getD_set_other (by omega)]; exact h8 j (by omega)
theorem SubRel.stop {a b out : List Int} {c : Int} (ha : Wd a) (hb : Wd b) (h : SubRel a b a.length out c) (hle : wv b ≤ wv a) : wv out = wv a - wv b := by
  obtain ⟨h1, h2, h3, h4, h5, h8⟩ := h
  have r1 := wv_range ha
  have r2 := wv_range h2
  rw [h3] at r2
  rw [wvN_of_lt hb (n := a.length) (by omega), wvN_past a (Nat.le_refl _), wvN_past out (by omega)] at h1
  have : c = 0 ∨ c = 1 := by omega
  rcases this with rfl | rfl
  · simp at h1; omega
  · simp at h1; omega
/-- A list and whether there is one. -/
def FreshOk (w : World) (z : Int) (m : Nat) (e : Ending) (w' : World) : Prop :=
  ∃ v, e = .returned (.tuple #[v, .bool true]) ∧ Fresh w z m (.returned v) w'
def NoneOk (w : World) (e : Ending) (w' : World) : Prop := e = .returned (.tuple #[.slice none 0 0, .bool false]) ∧ Below w.heap.size w w'
theorem Fresh.below {w w1 w2 : World} {z : Int} {m : Nat} {v : Value} (hb : Below w.heap.size w w1) (h : Fresh w1 z m (.returned v) w2) : Fresh w z m (.returned v) w2 := by
  obtain ⟨v', a, e, h1, h2, h3, h4, h5, h6⟩ := h
  refine ⟨v', a, e, ?_, h2, h3, h4, h5, hb.trans (h6.mono hb.size)⟩
  refine ⟨h1.1, ?_⟩
  rcases h1.2 with h | ⟨g, cap, cur, r1, r2, r3⟩
  · exact .inl h
  · exact .inr ⟨g, cap, cur, r1, by have := hb.size; omega, r3⟩
end Go.Proofs.YtdnbjaeeebodkaaGreat
