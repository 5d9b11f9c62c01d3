/- Contracts that the law leans on, pruned and merged: Natf. -/
import Derived.Test.YtigikgphipebiaaGreatDoorJa06
/- What Noughts of package nat returns; the table of math/bits stands as its text lays it. -/
namespace Go.Proofs.YtigikgphipebiaaGreatDoor
set_option maxRecDepth 100000
open Go.RowKit
set_option linter.unusedVariables false
def Tab (w : World) : Prop := TabAt 1 Lib.deBruijn32tab w
theorem Tab.call {w w' : World} (h : Tab w) (hb : Below w.heap.size w w') : Tab w' := fun j hj => cell_later hb (h j hj)
set_option maxHeartbeats 1000000 in
theorem tz32_core (x k idx : Nat) (w : World) (hx0 : ((x : Int) == 0) = false)
    (key : bits BinOp.and IntKind.u32 (x : Int) (-(x : Int) % 4294967296) * 125613361 % 4294967296 / 134217728 = (idx : Int))
    (hi : idx < 32) (hk : k < 32) (hcell : w.cell? ⟨1, idx, none⟩ = some (.int .u8 k)) :
    Calls Tryz.prog 205 #[.int .u32 x] w fun e w' => e = .returned (.int .i64 k) ∧ w = w' := by
  go_enter Tryz.func205, Tryz.ntmps205
  go_wp2_with (simp only [key])
  go_ret
  exact ⟨rfl, rfl⟩
theorem tz32_any (x : Nat) (hx : x < 4294967296) (hx0 : x ≠ 0) (w : World) (hT : Tab w) :
    Calls Tryz.prog 205 #[.int .u32 x] w fun e w' => e = .returned (.int .i64 (Lib.ctz 32 x)) ∧ w = w' := by
  obtain ⟨hlow, hk⟩ := Lib.lowest_bit 32 x hx0 hx
  obtain ⟨hi, htab⟩ := Lib.deBruijn32_at _ hk
  have hcell := hT _ hi
  rw [htab] at hcell
  exact tz32_core x _ _ w (by simp; omega) (tz32_key x _ hx hx0 hlow) hi hk hcell
/-- n is how often z can be halved; 0 for 0. -/
def Halved (z : Int) (n : Nat) : Prop := (z = 0 ∧ n = 0) ∨ ∃ m : Nat, z = 2 ^ n * (2 * m + 1)
def HalvedPost (z : Int) (w : World) (e : Ending) (w' : World) : Prop := ∃ n : Nat, e = .returned (.int .i64 n) ∧ Halved z n ∧ w = w'
theorem wvN_zeros {a : List Int} {k : Nat} (h : ∀ j, j < k → a.getD j 0 = 0) : wvN a k = 0 := by
  have := wvN_congr (a := a) (b := []) (n := k) (fun i hi => by rw [h i hi]; rfl)
  rw [this]
  have e : ∀ n, wvN [] n = 0 := fun n => by
    induction n with
    | zero => rfl
    | succ n ih => rw [wvN, ih]; simp
  exact e k
theorem pow32 (k : Nat) : (4294967296 : Int) ^ k = 2 ^ (k * 32) := by
  rw [Nat.mul_comm, Int.pow_mul]; rfl
theorem wvN_split (a : List Int) (k n : Nat) : wvN a (k + n) = wvN a k + 4294967296 ^ k * wvN (a.drop k) n := by
  induction n with
  | zero => simp [wvN]
  | succ n ih =>
    rw [← Nat.add_assoc, wvN, ih, wvN]
    have e : (a.drop k).getD n 0 = a.getD (k + n) 0 := by simp [List.getD]
    rw [e, Int.mul_add, Int.pow_add]
    have : a.getD (k + n) 0 * (4294967296 ^ k * 4294967296 ^ n) = 4294967296 ^ k * (a.getD (k + n) 0 * 4294967296 ^ n) := by
      rw [← Int.mul_assoc, Int.mul_comm (a.getD (k + n) 0), Int.mul_assoc]
    omega
theorem wv_split (a : List Int) {k : Nat} (hk : k ≤ a.length) : wv a = wvN a k + 4294967296 ^ k * wv (a.drop k) := by
  have h := wvN_split a k (a.length - k)
  rw [show k + (a.length - k) = a.length from by omega] at h
  rw [wv, h, wv, List.length_drop]
theorem Wd.drop {a : List Int} (h : Wd a) (k : Nat) : Wd (a.drop k) := fun x hx => h x (List.mem_of_mem_drop hx)
theorem wv_head {a : List Int} (hne : 0 < a.length) : wv a = a.getD 0 0 + 4294967296 * wv (a.drop 1) := by
  have h := wv_split a (k := 1) hne
  rw [h]; simp [wvN]
theorem halved_words {a : List Int} (hd : Wd a) {k : Nat} (hk : k < a.length) (hz : ∀ j, j < k → a.getD j 0 = 0) (S : Nat) (hS : a.getD k 0 = S) (h0 : S ≠ 0) : Halved (wv a) (k * 32 + Lib.ctz 32 S) := by
  have hS1 : S < 4294967296 := by have := (hd.getD k).2; omega
  obtain ⟨m, hm, hlt⟩ := Lib.ctzFrom_spec 32 S (by omega) hS1
  have hc : Lib.ctz 32 S = Lib.ctzFrom 32 S := by simp [Lib.ctz, h0]
  rw [hc]
  generalize Lib.ctzFrom 32 S = t at *
  have h1 := wv_split a (k := k) (by omega)
  have h2 := wv_head (a := a.drop k) (by rw [List.length_drop]; omega)
  have e : (a.drop k).getD 0 0 = (S : Int) := by rw [← hS]; simp [List.getD]
  rw [e] at h2
  obtain ⟨R, hR⟩ := Int.eq_ofNat_of_zero_le (wv_range ((hd.drop k).drop 1)).1
  rw [hR] at h2
  obtain ⟨s, hs⟩ : ∃ s, 32 = t + s + 1 := ⟨31 - t, by omega⟩
  refine .inr ⟨m + 2 ^ s * R, ?_⟩
  rw [h1, wvN_zeros hz, h2, pow32, Int.pow_add, Int.mul_assoc, Int.zero_add]
  congr 1
  have e1 : (4294967296 : Int) = 2 ^ t * 2 ^ s * 2 := by
    rw [← Int.pow_add, ← Int.pow_succ, show (t + s).succ = 32 from hs.symm]; rfl
  have e2 : (S : Int) = 2 ^ t * (2 * m + 1) := by rw [hm]; simp
  have e4 : ((m + 2 ^ s * R : Nat) : Int) = (m : Int) + 2 ^ s * (R : Int) := by simp
  rw [e2, e1, e4]
  simp only [Int.mul_add, Int.mul_assoc]
  have e5 : (2 : Int) ^ t * (2 * (2 ^ s * (R : Int))) = 2 ^ t * (2 ^ s * (2 * (R : Int))) := by rw [← Int.mul_assoc 2, Int.mul_comm 2 (2 ^ s), Int.mul_assoc]
  omega
set_option maxHeartbeats 1000000 in
theorem noughts_any (u : Value) (a : List Int) (w : World) (hu : WList w u a) (hT : Tab w) :
    Calls Tryz.prog 167 #[u] w (HalvedPost (wv a) w) := by
  obtain ⟨p, c, rfl⟩ := hu.shape
  have HU := Lib.hid hu
  have HT := Lib.hid hT
  have lx := hu.2.2
  clear hu hT
  go_enter Tryz.func167, Tryz.ntmps167
  go_wp2_with fail
  go_loop [6] (fun i => ∃ (k : Nat), k ≤ a.length ∧ i = .int .i64 k ∧ Hid (∀ j, j < k → a.getD j 0 = 0)) (fun i => a.length - (intOf i).toNat)
  case atStart => exact ⟨0, Nat.zero_le _, rfl, Lib.hid (fun j hj => by omega)⟩
  case round =>
    obtain ⟨k, hk, rfl, hz⟩ := hrel
    by_cases hlt : k < a.length
    · obtain ⟨b1, o1, hp1, hb1, hc1⟩ := HU.out.1.cell (i := k) hlt
      subst hp1
      have hd := HU.out.2.1.getD k
      have hN := Lib.hid (fun (S : Nat) (hS : a.getD k 0 = S) (h0 : S ≠ 0) => halved_words HU.out.2.1 hlt hz.out S hS h0)
      have hM := Lib.hid (fun (hS : a.getD k 0 = 0) => fun j (hj : j < k + 1) => (by by_cases e : j = k; rw [e]; exact hS; exact hz.out j (by omega) : a.getD j 0 = 0))
      generalize a.getD k 0 = s at *
      obtain ⟨S, rfl⟩ := Int.eq_ofNat_of_zero_le hd.1
      have hN2 := Lib.hid (hN.out S rfl)
      clear hN hz hb1
      by_cases h0 : S = 0
      · have hs0 : ((S : Nat) : Int) = 0 := by omega
        have hM2 := Lib.hid (hM.out hs0)
        clear hM h0
        go_wp2_with fail
        go_round
        case rel => exact ⟨k + 1, by omega, by go_num, hM2⟩
        case measure => simp [intOf]; omega
      · have hs0 : ¬ ((S : Nat) : Int) = 0 := by omega
        have hC := Lib.hid (tz32_any S (by omega) h0 w HT.out)
        have hR := Lib.hid (hN2.out h0)
        have hlow : Lib.ctz 32 S < 32 := (Lib.lowest_bit 32 S h0 (by omega)).2
        clear hM hN2 h0
        generalize Lib.ctz 32 S = t at *
        go_wp2_with fail
        refine (hC.out).mono ?_; rintro e w' ⟨rfl, rfl⟩
        go_wp2_with fail
        go_ret
        exact ⟨k * 32 + t, ret_int (by omega), hR.out, rfl⟩
    · have hE := Lib.hid (wvN_zeros (a := a) (k := a.length) (fun j hj => hz.out j (by omega)))
      clear hz
      go_wp2_with fail
      go_ret
      exact ⟨0, rfl, .inl ⟨hE.out, rfl⟩, rfl⟩
end Go.Proofs.YtigikgphipebiaaGreatDoor
