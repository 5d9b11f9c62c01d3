/- What Noughts of package nat returns; the table of math/bits stands as its text lays it. -/
import Derived.Test.YtdnbjaeeebodkaaGreatNate
namespace Go.Proofs.YtdnbjaeeebodkaaGreat
set_option maxRecDepth 100000
open Go.RowKit
set_option linter.unusedVariables false
/-- n is how often z can be halved; 0 for 0. -/
def Halved (z : Int) (n : Nat) : Prop := (z = 0 ∧ n = 0) ∨ ∃ m : Nat, z = 2 ^ n * (2 * m + 1)
def HalvedPost (z : Int) (w : World) (e : Ending) (w' : World) : Prop := ∃ n : Nat, e = .returned (.int .i64 n) ∧ Halved z n ∧ w = w'
theorem wvN_zeros {a : List Int} {k : Nat} (h : ∀ j, j < k → a.getD j 0 = 0) : wvN a k = 0 := by
  have := wvN_congr (a := a) (b := []) (n := k) (fun i hi => by rw [h i hi]; rfl)
  rw [this]
  have e : ∀ n, wvN [] n = 0 := fun n => by
    induction n with
    | zero => rfl
    | succ n ih => rw [wvN, ih]; simp
  exact e k
theorem pow32 (k : Nat) : (4294967296 : Int) ^ k = 2 ^ (k * 32) := by
  rw [Nat.mul_comm, Int.pow_mul]; rfl
/-- The words above. -/
def hiW (a : List Int) (k : Nat) : Int := wvN (a.drop k) (a.length - k)
theorem wvN_split (a : List Int) (k n : Nat) : wvN a (k + n) = wvN a k + 4294967296 ^ k * wvN (a.drop k) n := by
  induction n with
  | zero => simp [wvN]
  | succ n ih =>
    rw [← Nat.add_assoc, wvN, ih, wvN]
    have e : (a.drop k).getD n 0 = a.getD (k + n) 0 := by simp [List.getD]
    rw [e, Int.mul_add, Int.pow_add]
    have : a.getD (k + n) 0 * (4294967296 ^ k * 4294967296 ^ n) = 4294967296 ^ k * (a.getD (k + n) 0 * 4294967296 ^ n) := by
      rw [← Int.mul_assoc, Int.mul_comm (a.getD (k + n) 0), Int.mul_assoc]
    omega
theorem wv_split (a : List Int) {k : Nat} (hk : k ≤ a.length) : wv a = wvN a k + 4294967296 ^ k * wv (a.drop k) := by
  have h := wvN_split a k (a.length - k)
  rw [show k + (a.length - k) = a.length from by omega] at h
  rw [wv, h, wv, List.length_drop]
theorem Wd.drop {a : List Int} (h : Wd a) (k : Nat) : Wd (a.drop k) := fun x hx => h x (List.mem_of_mem_drop hx)
theorem wv_head {a : List Int} (hne : 0 < a.length) : wv a = a.getD 0 0 + 4294967296 * wv (a.drop 1) := by
  have h := wv_split a (k := 1) hne
  rw [h]; simp [wvN]
theorem halved_words {a : List Int} (hd : Wd a) {k : Nat} (hk : k < a.length) (hz : ∀ j, j < k → a.getD j 0 = 0) (S : Nat) (hS : a.getD k 0 = S) (h0 : S ≠ 0) : Halved (wv a) (k * 32 + Lib.ctz 32 S) := by
  have hS1 : S < 4294967296 := by have := (hd.getD k).2; omega
  obtain ⟨m, hm, hlt⟩ := Lib.ctzFrom_spec 32 S (by omega) hS1
  have hc : Lib.ctz 32 S = Lib.ctzFrom 32 S := by simp [Lib.ctz, h0]
  rw [hc]
  generalize Lib.ctzFrom 32 S = t at *
  have h1 := wv_split a (k := k) (by omega)
  have h2 := wv_head (a := a.drop k) (by rw [List.length_drop]; omega)
  have e : (a.drop k).getD 0 0 = (S : Int) := by rw [← hS]; simp [List.getD]
  rw [e] at h2
  obtain ⟨R, hR⟩ := Int.eq_ofNat_of_zero_le (wv_range ((hd.drop k).drop 1)).1
  rw [hR] at h2
  obtain ⟨s, hs⟩ : ∃ s, 32 = t + s + 1 := ⟨31 - t, by omega⟩
  refine .inr ⟨m + 2 ^ s * R, ?_⟩
  rw [h1, wvN_zeros hz, h2, pow32, Int.pow_add, Int.mul_assoc, Int.zero_add]
  congr 1
  have e1 : (4294967296 : Int) = 2 ^ t * 2 ^ s * 2 := by
    rw [← Int.pow_add, ← Int.pow_succ, show (t + s).succ = 32 from hs.symm]; rfl
  have e2 : (S : Int) = 2 ^ t * (2 * m + 1) := by rw [hm]; simp
  have e4 : ((m + 2 ^ s * R : Nat) : Int) = (m : Int) + 2 ^ s * (R : Int) := by simp
  rw [e2, e1, e4]
  simp only [Int.mul_add, Int.mul_assoc]
  have e5 : (2 : Int) ^ t * (2 * (2 ^ s * (R : Int))) = 2 ^ t * (2 ^ s * (2 * (R : Int))) := by rw [← Int.mul_assoc 2, Int.mul_comm 2 (2 ^ s), Int.mul_assoc]
  omega
end Go.Proofs.YtdnbjaeeebodkaaGreat
