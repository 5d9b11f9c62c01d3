/- Digits of base 1000 divided by 2^32, again and again: plain facts for Of of package bushelref02. -/
import Derived.Test.YtflhicfbojmjbaaDoorNatr
import Derived.Test.YtflhicfbojmjbaaDoorDivw
namespace Go.Proofs.YtflhicfbojmjbaaDoor
set_option maxRecDepth 100000
open Go.RowKit
/-- The digits from m on are divided. -/
def DDivRel (a : List Int) (m : Nat) (out : List Int) (r : Int) : Prop :=
  ∃ X Y, val a = valN a m + 1000 ^ m * X ∧ val out = valN a m + 1000 ^ m * Y ∧ X = 4294967296 * Y + r ∧ 0 ≤ r ∧ r < 4294967296 ∧ Dig out ∧ out.length = a.length ∧ ∀ j, j < m → out.getD j 0 = a.getD j 0
theorem DDivRel.start {a : List Int} (ha : Dig a) : DDivRel a a.length a 0 :=
  ⟨0, 0, by simp [val], by simp [val], by simp, by omega, by omega, ha, rfl, fun _ _ => rfl⟩
theorem DDivRel.step {a out : List Int} {r : Int} {m : Nat} (h : DDivRel a (m + 1) out r) (hm : m < a.length) (y : Int) (hy : out.getD m 0 = y) :
    DDivRel a m (out.set m ((r * 1000 + y) / 4294967296)) ((r * 1000 + y) % 4294967296) := by
  obtain ⟨X, Y, e1, e2, e3, e4, e5, e6, e7, e8⟩ := h
  have hya := e8 m (by omega)
  have hyr := e6.getD m
  rw [hy] at hya hyr
  have q0 : 0 ≤ (r * 1000 + y) / 4294967296 := by omega
  have q1 : (r * 1000 + y) / 4294967296 ≤ 999 := by omega
  have r0 : 0 ≤ (r * 1000 + y) % 4294967296 := by omega
  have r1 : (r * 1000 + y) % 4294967296 < 4294967296 := by omega
  have hde := Int.emod_add_mul_ediv (r * 1000 + y) 4294967296
  generalize (r * 1000 + y) / 4294967296 = q at *
  generalize (r * 1000 + y) % 4294967296 = s at *
  refine ⟨y + 1000 * X, q + 1000 * Y, ?_, ?_, ?_, r0, r1, e6.set q0 q1, by simpa using e7, fun j hj => ?_⟩
  · rw [e1, valN, ← hya, p_succ, Int.mul_add, Int.mul_comm y, Int.mul_assoc]; omega
  · rw [val_set (by omega), e2, valN, ← hya, hy, p_succ, Int.mul_add, Int.sub_mul, Int.mul_comm y, Int.mul_comm q, Int.mul_assoc]; omega
  · omega
  · rw [getD_set_other (by omega)]; exact e8 j (by omega)
theorem DDivRel.stop {a out : List Int} {r : Int} (h : DDivRel a 0 out r) : val out = val a / 4294967296 ∧ r = val a % 4294967296 ∧ Dig out ∧ out.length = a.length := by
  obtain ⟨X, Y, e1, e2, e3, e4, e5, e6, e7, e8⟩ := h
  simp [valN] at e1 e2
  exact ⟨by omega, by omega, e6, e7⟩
/-- The words that are out, and the digits that are left. -/
def OfRel (z : Int) (out ds : List Int) : Prop := z = wv out + 4294967296 ^ out.length * val ds ∧ Wd out ∧ Dig ds ∧ Tidy ds ∧ (ds = [] → Tidy out)
theorem OfRel.start {z : Int} {ds : List Int} (hz : z = val ds) (hd : Dig ds) (ht : Tidy ds) : OfRel z [] ds := ⟨by simp [wv_nil, hz], Wd.nil, hd, ht, fun _ => .inl rfl⟩
theorem OfRel.next {z : Int} {out ds ds' : List Int} (h : OfRel z out ds) (hne : ds ≠ []) (hv : val ds' = val ds / 4294967296) (hd : Dig ds') (ht : Tidy ds') : OfRel z (out ++ [val ds % 4294967296]) ds' := by
  obtain ⟨h1, h2, h3, h4, h5⟩ := h
  have hr0 := Int.emod_nonneg (val ds) (show (4294967296 : Int) ≠ 0 by decide)
  have hr1 := Int.emod_lt_of_pos (val ds) (show (0 : Int) < 4294967296 by decide)
  have hw := wv_snoc out (val ds % 4294967296)
  refine ⟨?_, ?_, hd, ht, fun e => ?_⟩
  · rw [hw, List.length_append, List.length_singleton, q_succ, hv, h1]
    generalize (4294967296 : Int) ^ out.length = P
    have k := Int.emod_add_mul_ediv (val ds) 4294967296
    have k2 : P * val ds = P * (val ds % 4294967296 + 4294967296 * (val ds / 4294967296)) := by rw [k]
    rw [k2, Int.mul_add, ← Int.mul_assoc, Int.mul_comm P (val ds % 4294967296)]
    omega
  · intro x hx
    rcases List.mem_append.1 hx with hx | hx
    · exact h2 x hx
    · simp at hx; omega
  · subst e
    have : val ds ≠ 0 := fun e0 => hne ((h4.zero h3).1 e0)
    rw [val_nil] at hv
    exact .inr (by simp [List.getD]; omega)
theorem OfRel.stop {z : Int} {out : List Int} (h : OfRel z out []) : wv out = z ∧ Wd out ∧ Tidy out := by
  obtain ⟨h1, h2, h3, h4, h5⟩ := h
  rw [val_nil] at h1
  exact ⟨by omega, h2, h5 rfl⟩
end Go.Proofs.YtflhicfbojmjbaaDoor
