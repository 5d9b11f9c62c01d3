/- What Root of package nat returns, where Div answers as it should. -/
import Derived.Test.YtdnbjaeeebodkaaGreatNato
import Derived.Deep.LoopGhost
namespace Go.Proofs.YtdnbjaeeebodkaaGreat
set_option maxRecDepth 100000
open Go.RowKit
set_option linter.unusedVariables false
/-- Nothing but block g has changed. -/
def Only (g : Nat) (w w' : World) : Prop := w'.os = w.os ∧ w'.tape = w.tape ∧ w'.output = w.output ∧ w'.heap.size = w.heap.size ∧ ∀ k, k ≠ g → w'.heap[k]? = w.heap[k]?
theorem Only.refl (g : Nat) (w : World) : Only g w w := ⟨rfl, rfl, rfl, rfl, fun _ _ => rfl⟩
theorem Only.below {g B : Nat} {w w' : World} (h : Only g w w') (hB : B ≤ g) : Below B w w' := ⟨h.1, h.2.1, h.2.2.1, by rw [h.2.2.2.1]; exact Nat.le_refl _, fun k hk => h.2.2.2.2 k (by omega)⟩
theorem Only.drewN {g : Nat} {w w' : World} (h : Only g w w') (n : Nat) : Only g w (w'.drewN n) := by
  have hb := below_drewN (Below.refl w'.heap.size w') n
  refine ⟨hb.os.trans h.1, hb.tape.trans h.2.1, hb.output.trans h.2.2.1, ?_, fun k hk => ?_⟩
  · show (w'.drewN n).heap.size = _
    rw [show (w'.drewN n).heap = w'.heap from World.heap_drewN _ _]; exact h.2.2.2.1
  · rw [show (w'.drewN n).heap = w'.heap from World.heap_drewN _ _]; exact h.2.2.2.2 k hk
theorem Only.set {g : Nat} {w w' : World} (h : Only g w w') (j : Nat) (x : Value) : Only g w (w'.setCell ⟨g, j, none⟩ x) := by
  have hb := (Below.refl 0 w').setCell (p := ⟨g, j, none⟩) (Nat.zero_le _) x
  refine ⟨hb.os.trans h.1, hb.tape.trans h.2.1, hb.output.trans h.2.2.1, ?_, fun k hk => ?_⟩
  · rw [← h.2.2.2.1]; simp [World.setCell]
  · rw [Below.heap_setCell _ _ _ _ (by simpa using hk)]; exact h.2.2.2.2 k hk
theorem Only.row {g B E : Nat} {w w' : World} {v : Value} {n : Nat} {xs : List Value} (h : Only g w w') (hr : w.ownsRow B E 1 v n xs) (hne : v.ownBlock ≠ some g) : w'.ownsRow B E 1 v n xs := by
  obtain ⟨h1, h2⟩ := hr
  refine ⟨h1, ?_⟩
  rcases h2 with h2 | ⟨g', cap, cur, rfl, q1, q2, q3⟩
  · exact .inl h2
  · refine .inr ⟨g', cap, cur, rfl, q1, ?_, q3⟩
    rw [h.2.2.2.2 g' (by intro e; subst e; exact hne rfl)]; exact q2
def WDivRel (a : List Int) (d : Int) (m : Nat) (out : List Int) (r : Int) : Prop :=
  ∃ X Y, wv a = wvN a m + 4294967296 ^ m * X ∧ wv out = wvN a m + 4294967296 ^ m * Y ∧ X = d * Y + r ∧ 0 ≤ r ∧ r < d ∧ Wd out ∧ out.length = a.length ∧ ∀ j, j < m → out.getD j 0 = a.getD j 0
theorem WDivRel.start {a : List Int} {d : Int} (ha : Wd a) (hd : 0 < d) : WDivRel a d a.length a 0 :=
  ⟨0, 0, by simp [wv], by simp [wv], by simp, by omega, hd, ha, rfl, fun _ _ => rfl⟩
theorem WDivRel.step {a out : List Int} {d r : Int} {m : Nat} (h : WDivRel a d (m + 1) out r) (hm : m < a.length) (hd : d ≤ 4294967295) (y : Int) (hy : out.getD m 0 = y) :
    WDivRel a d m (out.set m ((r * 4294967296 + y) / d)) ((r * 4294967296 + y) % d) := by
  obtain ⟨X, Y, e1, e2, e3, e4, e5, e6, e7, e8⟩ := h
  have hya := e8 m (by omega)
  have hyr := e6.getD m
  rw [hy] at hya hyr
  obtain ⟨q0, q1, r0, r1⟩ := div_word_bounds e4 e5 hyr.1 hyr.2 hd
  have hde := Int.emod_add_mul_ediv (r * 4294967296 + y) d
  generalize (r * 4294967296 + y) / d = q at *
  generalize (r * 4294967296 + y) % d = s at *
  refine ⟨y + 4294967296 * X, q + 4294967296 * Y, ?_, ?_, ?_, r0, r1, e6.set q0 q1, by simpa using e7, fun j hj => ?_⟩
  · rw [e1, wvN, ← hya, q_succ, Int.mul_add, Int.mul_comm y, Int.mul_assoc]; omega
  · rw [wv_set (by omega), e2, wvN, ← hya, hy, q_succ, Int.mul_add, Int.sub_mul, Int.mul_comm y, Int.mul_comm q, Int.mul_assoc]; omega
  · rw [e3]
    have k1 : 4294967296 * (d * Y + r) = d * (4294967296 * Y) + r * 4294967296 := by
      rw [Int.mul_add, ← Int.mul_assoc, Int.mul_comm 4294967296 d, Int.mul_assoc, Int.mul_comm 4294967296 r]
    have k2 : d * (q + 4294967296 * Y) = d * q + d * (4294967296 * Y) := Int.mul_add _ _ _
    omega
  · rw [getD_set_other (by omega)]; exact e8 j (by omega)
theorem WDivRel.stop {a out : List Int} {d r : Int} (h : WDivRel a d 0 out r) : wv out = wv a / d ∧ r = wv a % d ∧ Wd out ∧ out.length = a.length := by
  obtain ⟨X, Y, e1, e2, e3, e4, e5, e6, e7, e8⟩ := h
  simp [wvN] at e1 e2
  have := (Int.ediv_emod_unique (a := wv a) (b := d) (r := r) (q := wv out) (by omega)).2 ⟨by rw [e1, e2, e3]; omega, e4, e5⟩
  exact ⟨this.1.symm, this.2.symm, e6, e7⟩
def DbwPost (B g cap : Nat) (a : List Int) (d : Int) (w : World) (e : Ending) (w' : World) : Prop :=
  ∃ out, e = .returned (.int .u32 (wv a % d)) ∧ WRow w' B g cap out ∧ Wd out ∧ out.length = a.length ∧ wv out = wv a / d ∧ Only g w w'
set_option maxRecDepth 100000
open Go.RowKit
set_option linter.unusedVariables false
def NatDivPost (w : World) (x y : Int) (e : Ending) (w' : World) : Prop := ∃ v1 v2, e = .returned (.tuple #[v1, v2, .bool true]) ∧ IsNat w' v1 x ∧ IsNat w' v2 y ∧ Below w.heap.size w w'
def NatDivNone (w : World) (e : Ending) (w' : World) : Prop := e = .returned (.tuple #[.slice none 0 0, .slice none 0 0, .bool false]) ∧ Below w.heap.size w w'
theorem IsNat.own {w : World} {B : Nat} {v : Value} {a : List Int} (h : w.ownsRow B 90 1 v a.length (a.map (Value.int .u32))) (hd : Wd a) (ht : Tidy a) (hl : a.length ≤ 1099511627776) : IsNat w v (wv a) := ⟨a, own_wlist h hd hl, ht, rfl⟩
theorem Fresh.isNat {w w' : World} {z : Int} {m : Nat} {v : Value} (h : Fresh w z m (.returned v) w') (hm : m ≤ 1099511627776) : IsNat w' v z ∧ Below w.heap.size w w' := by
  obtain ⟨v', a, e, h1, h2, h3, h4, h5, h6⟩ := h
  simp only [Ending.returned.injEq] at e
  subst e
  exact ⟨⟨a, own_wlist h1 h2 (by omega), h3, h4⟩, h6⟩
theorem isNat_zero {w : World} : IsNat w (.slice none 0 0) 0 := ⟨[], WList.nil, .inl rfl, rfl⟩
theorem one_word {y : List Int} (hd : Wd y) (ht : Tidy y) (h0 : 0 < wv y) (h1 : wv y < 4294967296) : y = [wv y] := by
  have hl := ht.wlen hd (n := 1) (by simpa using h1)
  match y, hl with
  | [], _ => rw [wv_nil] at h0; omega
  | [d], _ => simp [wv, wvN]
set_option maxRecDepth 100000
open Go.RowKit
set_option linter.unusedVariables false
def IsRoot (A s : Int) : Prop := 0 ≤ s ∧ s * s ≤ A ∧ A < (s + 1) * (s + 1)
theorem sq_succ (x : Int) : (x + 1) * (x + 1) = x * x + 2 * x + 1 := by rw [Int.add_mul, Int.mul_add]; omega
theorem root_exists (A : Nat) : ∃ s, IsRoot A s := by
  induction A with
  | zero => exact ⟨0, by unfold IsRoot; decide⟩
  | succ n ih =>
    obtain ⟨s, h0, h1, h2⟩ := ih
    by_cases h : (n : Int) + 1 < (s + 1) * (s + 1)
    · exact ⟨s, h0, by omega, by omega⟩
    · refine ⟨s + 1, by omega, by omega, ?_⟩
      rw [sq_succ (s + 1)]; omega
/-- One step of Newton from above stays above, and one that doesn't fall has arrived. -/
theorem newton_above {A s r : Int} (hs : IsRoot A s) (hr : s ≤ r) (h0 : 0 < r) : s ≤ (r + A / r) / 2 := by
  obtain ⟨k0, k1, k2⟩ := hs
  have h1 : 2 * s - r ≤ A / r := by
    refine (Int.le_ediv_iff_mul_le h0).2 ?_
    have e : (r - s) * (r - s) = r * r - r * s - (s * r - s * s) := by rw [Int.sub_mul, Int.mul_sub, Int.mul_sub]
    have e2 : 0 ≤ (r - s) * (r - s) := Int.mul_nonneg (by omega) (by omega)
    have e3 : (2 * s - r) * r = 2 * (s * r) - r * r := by rw [Int.sub_mul, Int.mul_assoc]
    have e4 : r * s = s * r := Int.mul_comm _ _
    omega
  omega
theorem newton_stop {A s r : Int} (hs : IsRoot A s) (hr : s ≤ r) (h0 : 0 < r) (h : r ≤ (r + A / r) / 2) : r = s := by
  obtain ⟨k0, k1, k2⟩ := hs
  by_cases e : r = s
  · exact e
  · exfalso
    have h1 : r ≤ A / r := by omega
    have h2 : r * r ≤ A := (Int.le_ediv_iff_mul_le h0).1 h1
    have h3 : (s + 1) * (s + 1) ≤ r * r := Int.mul_le_mul (by omega) (by omega) (by omega) (by omega)
    omega
theorem root_pos {A s : Int} (hs : IsRoot A s) (hA : 0 < A) : 0 < s := by
  obtain ⟨k0, k1, k2⟩ := hs
  by_cases e : s = 0
  · subst e; simp at k2; omega
  · omega
theorem bits_lt {z : Int} (h0 : 0 < z) : z < 2 ^ bitsZ z := by
  obtain ⟨Z, rfl⟩ := Int.eq_ofNat_of_zero_le (Int.le_of_lt h0)
  have hz : (Z : Int) ≠ 0 := by omega
  rw [bitsZ, if_neg hz, Int.toNat_natCast]
  have := Nat.lt_log2_self (n := Z)
  have e : ((2 ^ (Nat.log2 Z + 1) : Nat) : Int) = (2 : Int) ^ (Nat.log2 Z + 1) := by simp
  omega
theorem bits_le {z : Int} (h0 : 0 < z) : 2 ^ (bitsZ z - 1) ≤ z := by
  obtain ⟨Z, rfl⟩ := Int.eq_ofNat_of_zero_le (Int.le_of_lt h0)
  have hz : (Z : Int) ≠ 0 := by omega
  rw [bitsZ, if_neg hz, Int.toNat_natCast, Nat.add_sub_cancel]
  have := Nat.log2_self_le (n := Z) (by omega)
  have e : ((2 ^ Nat.log2 Z : Nat) : Int) = (2 : Int) ^ Nat.log2 Z := by simp
  omega
theorem pow2_mono {m n : Nat} (h : m ≤ n) : (2 : Int) ^ m ≤ 2 ^ n := by
  have := Nat.pow_le_pow_right (n := 2) (by decide) h
  have e1 : ((2 ^ m : Nat) : Int) = (2 : Int) ^ m := by simp
  have e2 : ((2 ^ n : Nat) : Int) = (2 : Int) ^ n := by simp
  omega
theorem root_le_start {A s : Int} (hs : IsRoot A s) (hA : 0 < A) : s ≤ 2 ^ ((bitsZ A + 1) / 2) := by
  obtain ⟨k0, k1, k2⟩ := hs
  by_cases e : s ≤ 2 ^ ((bitsZ A + 1) / 2)
  · exact e
  · exfalso
    have h1 := bits_lt hA
    have h2 : (2 : Int) ^ bitsZ A ≤ 2 ^ ((bitsZ A + 1) / 2) * 2 ^ ((bitsZ A + 1) / 2) := by
      rw [← Int.pow_add]; exact pow2_mono (by omega)
    have h3 : (2 : Int) ^ ((bitsZ A + 1) / 2) * 2 ^ ((bitsZ A + 1) / 2) ≤ s * s := Int.mul_le_mul (by omega) (by omega) (Int.le_of_lt (Int.pow_pos (by decide))) (by omega)
    omega
theorem bitsZ_pos {z : Int} (h0 : 0 < z) : 0 < bitsZ z := by
  rw [bitsZ, if_neg (by omega)]; omega
theorem bits_words {a : List Int} (hd : Wd a) (h0 : 0 < wv a) : bitsZ (wv a) ≤ a.length * 32 := by
  have h1 := bits_le h0
  have h2 := (wv_range hd).2
  rw [pow32] at h2
  have h3 : bitsZ (wv a) - 1 < a.length * 32 := by
    by_cases e : bitsZ (wv a) - 1 < a.length * 32
    · exact e
    · have := pow2_mono (m := a.length * 32) (n := bitsZ (wv a) - 1) (by omega)
      omega
  have := bitsZ_pos h0
  omega
def RootPost (w : World) (A : Int) (e : Ending) (w' : World) : Prop := ∃ v s, e = .returned v ∧ IsNat w' v s ∧ IsRoot A s ∧ Below w.heap.size w w'
end Go.Proofs.YtdnbjaeeebodkaaGreat
