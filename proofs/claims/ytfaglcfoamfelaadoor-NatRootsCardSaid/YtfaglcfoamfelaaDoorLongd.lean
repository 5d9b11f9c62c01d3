/- What divideLong of package nat answers, and what is left. -/
import Derived.Test.YtfaglcfoamfelaaDoorLongc
import Derived.Test.YtfaglcfoamfelaaDoorNatq
import Derived.Outline
namespace Go.Proofs.YtfaglcfoamfelaaDoor
open Go.RowKit
set_option linter.unusedVariables false
theorem Only.trans {g : Nat} {w w1 w2 : World} (h : Only g w w1) (k : Only g w1 w2) : Only g w w2 :=
  ⟨k.1.trans h.1, k.2.1.trans h.2.1, k.2.2.1.trans h.2.2.1, k.2.2.2.1.trans h.2.2.2.1, fun j hj => (k.2.2.2.2 j hj).trans (h.2.2.2.2 j hj)⟩
theorem WRow.only {w w' : World} {B g g' cap : Nat} {a : List Int} (h : WRow w B g' cap a) (ho : Only g w w') (hne : g' ≠ g) : WRow w' B g' cap a :=
  ho.row h (by simp [Value.ownBlock]; exact hne)
theorem WList.only {w w' : World} {g : Nat} {v : Value} {V : List Int} (h : WList w v V) (ho : Only g w w') (hf : ∀ b o l d, v = .slice (some ⟨b, o, none⟩) l d → b ≠ g) : WList w' v V := by
  obtain ⟨⟨a, c, rfl, hc, ha⟩, h2⟩ := h
  refine ⟨⟨a, c, rfl, hc, ?_⟩, h2⟩
  rcases ha with h | ⟨b, off, rfl, hb, hcell⟩
  · exact .inl h
  · exact .inr ⟨b, off, rfl, by rw [ho.2.2.2.1]; exact hb, fun i hi => by rw [World.cell?_of_block (w := w) (w' := w') (ho.2.2.2.2 b (hf _ _ _ _ rfl))]; exact hcell i hi⟩
/-- Long division: the places from j on are done. -/
def LongRel (R V : List Int) (j0 j : Nat) (S Qt : List Int) : Prop :=
  wv S + wv V * wv Qt = wv R ∧ wv S < wv V * 4294967296 ^ j ∧ Wd S ∧ Wd Qt ∧ S.length = R.length ∧ Qt.length = j0 ∧ (∀ i, i < j → Qt.getD i 0 = 0)
theorem LongRel.start {R V : List Int} {j0 : Nat} (hR : Wd R) (h : wv R < wv V * 4294967296 ^ j0) : LongRel R V j0 j0 R (List.replicate j0 0) := by
  refine ⟨by rw [wv_replicate]; simp, h, hR, Wd.zeros _, rfl, by simp, fun i _ => ?_⟩
  simp [List.getD, List.getElem?_replicate]; split <;> simp
/-- The words above those that are looked at are noughts. -/
theorem LongRel.seg {R V S Qt : List Int} {j0 t : Nat} (h : LongRel R V j0 (t + 1) S Qt) (hV : Wd V) (hl : t + V.length < S.length) :
    wv S = wvN S t + 4294967296 ^ t * sgN S t (V.length + 1) ∧ sgN S t (V.length + 1) < wv V * 4294967296 := by
  obtain ⟨h1, h2, h3, h4, h5, h6, h7⟩ := h
  have hv := (wv_range hV).2
  have e1 : wvN S (t + (V.length + 1)) = wv S := by
    refine wvN_of_lt h3 ?_
    have k1 : wv V * 4294967296 ^ (t + 1) < 4294967296 ^ V.length * 4294967296 ^ (t + 1) := Int.mul_lt_mul_of_pos_right hv (q_pos _)
    rw [← Int.pow_add] at k1
    rw [show V.length + (t + 1) = t + (V.length + 1) from by omega] at k1
    omega
  have e2 := wvN_seg S t (V.length + 1)
  rw [e1] at e2
  refine ⟨e2, ?_⟩
  have h8 := (wvN_range h3 t).1
  have hp := q_pos t
  by_cases g : sgN S t (V.length + 1) < wv V * 4294967296
  · exact g
  · exfalso
    have k2 : 4294967296 ^ t * (wv V * 4294967296) ≤ 4294967296 ^ t * sgN S t (V.length + 1) := Int.mul_le_mul_of_nonneg_left (by omega) (by omega)
    rw [q_succ] at h2
    have k3 : 4294967296 ^ t * (wv V * 4294967296) = wv V * (4294967296 ^ t * 4294967296) := by rw [← Int.mul_assoc, Int.mul_comm (4294967296 ^ t : Int), Int.mul_assoc]
    omega
theorem LongRel.next {R V S T Qt : List Int} {j0 t : Nat} {q : Int} (h : LongRel R V j0 (t + 1) S Qt) (hV : Wd V) (hv0 : 0 < wv V) (hl : t + V.length < S.length) (hT : Wd T) (ho : Out S T t (V.length + 1)) (hq : q = sgN S t (V.length + 1) / wv V)
    (hs : sgN T t (V.length + 1) = sgN S t (V.length + 1) % wv V) (htl : t < j0) : LongRel R V j0 t T (Qt.set t q) := by
  obtain ⟨e1, e2⟩ := h.seg hV hl
  obtain ⟨h1, h2, h3, h4, h5, h6, h7⟩ := h
  have hu0 := (sgN_range h3 t (V.length + 1)).1
  have q0 : 0 ≤ q := by rw [hq]; exact Int.ediv_nonneg hu0 (by omega)
  have q1 : q < 4294967296 := by rw [hq]; exact Int.ediv_lt_of_lt_mul hv0 (by rw [Int.mul_comm]; exact e2)
  have hmod := Int.emod_add_mul_ediv (sgN S t (V.length + 1)) (wv V)
  have hr1 := Int.emod_lt_of_pos (sgN S t (V.length + 1)) hv0
  have hr0 := Int.emod_nonneg (sgN S t (V.length + 1)) (show wv V ≠ 0 by omega)
  rw [← hq, ← hs] at hmod
  rw [← hs] at hr1 hr0
  have hlow : wvN T t = wvN S t := wvN_congr (fun i hi => ho.2 i (.inl hi))
  have hw := wvN_range h3 t
  have hp := q_pos t
  have e3 : wv T = wvN S t + 4294967296 ^ t * sgN T t (V.length + 1) := by
    have k1 := wvN_seg T t (V.length + 1)
    rw [hlow] at k1
    have k2 : wv T - wvN T (t + (V.length + 1)) = wv S - wvN S (t + (V.length + 1)) := wv_same_top (fun i hi => ho.2 i (.inr (by omega)))
    have k3 := wvN_seg S t (V.length + 1)
    omega
  have hQl : t < Qt.length := by omega
  refine ⟨?_, ?_, hT, h4.set q0 (by omega), ho.1.trans h5, by simpa using h6, fun i hi => by rw [getD_set_other (by omega)]; exact h7 i (by omega)⟩
  · rw [wv_set hQl, h7 t (by omega), e3, ← h1, e1, ← hmod]
    generalize sgN T t (V.length + 1) = s
    generalize (4294967296 : Int) ^ t = P
    generalize wv V = v
    have k1 : v * (wv Qt + (q - 0) * P) = v * wv Qt + v * q * P := by rw [Int.sub_zero, Int.mul_add, ← Int.mul_assoc]
    have k2 : P * (s + v * q) = P * s + v * q * P := by rw [Int.mul_add, Int.mul_comm P (v * q)]
    omega
  · rw [e3]
    have k1 : 4294967296 ^ t * (sgN T t (V.length + 1) + 1) ≤ 4294967296 ^ t * wv V := Int.mul_le_mul_of_nonneg_left (by omega) (by omega)
    have k2 : 4294967296 ^ t * wv V = wv V * 4294967296 ^ t := Int.mul_comm _ _
    rw [Int.mul_add] at k1
    omega
/-- The digit out of its guess. -/
theorem digit_right {V S T : List Int} {k : Nat} {q : Int} {b : Bool} (hg : sgN S k (V.length + 1) / wv V ≤ q ∧ q ≤ sgN S k (V.length + 1) / wv V + 1) (hv0 : 0 < wv V) (hS : Wd S) (hT : Wd T)
    (h : sgN T k (V.length + 1) = sgN S k (V.length + 1) - q * wv V + 4294967296 ^ (V.length + 1) * (bif b then 1 else 0)) (hV : Wd V) :
    (b = false → q = sgN S k (V.length + 1) / wv V ∧ sgN T k (V.length + 1) = sgN S k (V.length + 1) % wv V) ∧
    (b = true → q - 1 = sgN S k (V.length + 1) / wv V ∧ ∀ (U : List Int) (t : Int), Wd U → sgN U k (V.length + 1) = sgN T k (V.length + 1) + wv V - 4294967296 ^ (V.length + 1) * t → sgN U k (V.length + 1) = sgN S k (V.length + 1) % wv V) := by
  have hT0 := sgN_range hT k (V.length + 1)
  have hS0 := sgN_range hS k (V.length + 1)
  have hv := (wv_range hV).2
  have hq2 := q_mono (m := V.length) (n := V.length + 1) (by omega)
  have hmod := Int.emod_add_mul_ediv (sgN S k (V.length + 1)) (wv V)
  have hr1 := Int.emod_lt_of_pos (sgN S k (V.length + 1)) hv0
  have hr0 := Int.emod_nonneg (sgN S k (V.length + 1)) (show wv V ≠ 0 by omega)
  generalize sgN S k (V.length + 1) = u at *
  generalize sgN T k (V.length + 1) = s at *
  generalize hd : u / wv V = d at *
  have hcase : q = d ∨ q = d + 1 := by omega
  have hcomm : wv V * d = d * wv V := Int.mul_comm _ _
  constructor
  · intro hb
    subst hb
    simp at h
    rcases hcase with rfl | rfl
    · exact ⟨rfl, by omega⟩
    · exfalso
      rw [Int.add_mul] at h
      omega
  · intro hb
    subst hb
    simp at h
    rcases hcase with rfl | rfl
    · exfalso; omega
    · refine ⟨by omega, fun U t hU hUt => ?_⟩
      have hU0 := sgN_range hU k (V.length + 1)
      rw [Int.add_mul] at h
      generalize sgN U k (V.length + 1) = y at *
      generalize hP : (4294967296 : Int) ^ (V.length + 1) = P at *
      have ht : y = u % wv V + P * (1 - t) := by
        have : P * (1 - t) = P - P * t := by rw [Int.mul_sub]; omega
        omega
      have h1 : 1 - t = 0 := by
        rcases Int.lt_trichotomy (1 - t) 0 with g | g | g
        · exfalso
          have : P * (1 - t) ≤ P * (-1) := Int.mul_le_mul_of_nonneg_left (by omega) (by omega)
          omega
        · exact g
        · exfalso
          have : P * 1 ≤ P * (1 - t) := Int.mul_le_mul_of_nonneg_left (by omega) (by omega)
          omega
      rw [h1] at ht
      omega
end Go.Proofs.YtfaglcfoamfelaaDoor
