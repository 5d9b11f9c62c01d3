/- Layer 13: keys of codes: pure. -/
import Derived.Test.YtgbeedjcliajfaaSchh
namespace Go.Proofs.Ytgbeedjcliajfaa
set_option maxRecDepth 100000
open Go.RowKit
set_option linter.unusedVariables false
/-- The key of codes for a set, the number of keys of a set, of the dimensions from the i-th on. -/
def keyG (d c : Nat → Int) (p : Nat → Bool) : Nat → Int
  | 0 => 0
  | k + 1 => if p k = true then keyG d c p k * d k + c k else keyG d c p k
def numG (d : Nat → Int) (p : Nat → Bool) : Nat → Int
  | 0 => 1
  | k + 1 => if p k = true then numG d p k * d k else numG d p k
def tailG (d : Nat → Int) (p : Nat → Bool) (i : Nat) : Nat → Int
  | 0 => 1
  | j + 1 => if p (i + j) = true then tailG d p i j * d (i + j) else tailG d p i j
theorem tailG_num (d : Nat → Int) (p : Nat → Bool) : ∀ n, tailG d p 0 n = numG d p n
  | 0 => rfl
  | n + 1 => by
    unfold tailG numG
    rw [tailG_num d p n, Nat.zero_add]
theorem tailG_pos {d : Nat → Int} {p : Nat → Bool} {n i : Nat} (hd : ∀ k, k < n → 1 ≤ d k) : ∀ j, i + j ≤ n → 1 ≤ tailG d p i j
  | 0, _ => by simp [tailG]
  | j + 1, h => by
    have h1 := tailG_pos (p := p) (i := i) hd j (by omega)
    have h2 := hd (i + j) (by omega)
    unfold tailG
    split
    · have := Int.mul_le_mul h1 h2 (by omega) (by omega)
      omega
    · exact h1
theorem tailG_cons (d : Nat → Int) (p : Nat → Bool) (i : Nat) : ∀ j, tailG d p i (j + 1) = (if p i = true then d i else 1) * tailG d p (i + 1) j
  | 0 => by
    simp only [tailG, Nat.add_zero]
    split <;> simp
  | j + 1 => by
    rw [tailG, tailG_cons d p i j]
    show _ = (if p i = true then d i else 1) * (if p (i + 1 + j) = true then tailG d p (i + 1) j * d (i + 1 + j) else tailG d p (i + 1) j)
    have e : i + (j + 1) = i + 1 + j := by omega
    rw [e]
    split
    · rw [Int.mul_assoc]
    · rfl
/-- The codes of the set from the i-th on are in their ranges. -/
def InG (d c : Nat → Int) (p : Nat → Bool) (n : Nat) : Prop := ∀ k, k < n → p k = true → 0 ≤ c k ∧ c k < d k
theorem keyG_split {d c : Nat → Int} {p : Nat → Bool} {n i : Nat} (hd : ∀ k, k < n → 1 ≤ d k) (hc : InG d c p n) : ∀ j, i + j ≤ n → ∃ r, 0 ≤ r ∧ r < tailG d p i j ∧ keyG d c p (i + j) = keyG d c p i * tailG d p i j + r
  | 0, _ => ⟨0, by simp, by simp [tailG], by simp [tailG]⟩
  | j + 1, h => by
    obtain ⟨r, h0, h1, h2⟩ := keyG_split (i := i) hd hc j (by omega)
    have hdj := hd (i + j) (by omega)
    have eT : tailG d p i (j + 1) = if p (i + j) = true then tailG d p i j * d (i + j) else tailG d p i j := rfl
    have eK : keyG d c p (i + (j + 1)) = if p (i + j) = true then keyG d c p (i + j) * d (i + j) + c (i + j) else keyG d c p (i + j) := rfl
    rw [eT, eK]
    by_cases hp : p (i + j) = true
    · obtain ⟨c0, c1⟩ := hc (i + j) (by omega) hp
      simp only [if_pos hp]
      refine ⟨r * d (i + j) + c (i + j), ?_, ?_, ?_⟩
      · have := Int.mul_nonneg h0 (show 0 ≤ d (i + j) by omega)
        omega
      · have h3 : (r + 1) * d (i + j) ≤ tailG d p i j * d (i + j) := Int.mul_le_mul_of_nonneg_right (by omega) (by omega)
        rw [Int.add_mul, Int.one_mul] at h3
        omega
      · rw [h2, Int.add_mul, Int.mul_assoc, Int.add_assoc]
    · simp only [if_neg hp]
      exact ⟨r, h0, h1, h2⟩
theorem keyG_range {d c : Nat → Int} {p : Nat → Bool} {n : Nat} (hd : ∀ k, k < n → 1 ≤ d k) (hc : InG d c p n) : 0 ≤ keyG d c p n ∧ keyG d c p n < numG d p n := by
  obtain ⟨r, h0, h1, h2⟩ := keyG_split (i := 0) hd hc n (by omega)
  rw [Nat.zero_add] at h2
  rw [tailG_num] at h1
  have e : keyG d c p 0 = 0 := rfl
  rw [e, Int.zero_mul] at h2
  omega
theorem div_splitG {q A T r : Int} (h : q = A * T + r) (h0 : 0 ≤ r) (h1 : r < T) : q / T = A := by
  have hT : T ≠ 0 := by omega
  rw [h, Int.add_comm, Int.add_mul_ediv_right _ _ hT, Int.ediv_eq_zero_of_lt h0 h1, Int.zero_add]
theorem mod_splitG {q A T r : Int} (h : q = A * T + r) (h0 : 0 ≤ r) (h1 : r < T) : q % T = r := by
  rw [h, Int.add_comm, Int.add_mul_emod_self_right]
  exact Int.emod_eq_of_lt h0 h1
/-- The i-th code of a key. -/
def codG (d : Nat → Int) (p : Nat → Bool) (n : Nat) (q : Int) (i : Nat) : Int := if p i = true then q / tailG d p (i + 1) (n - i - 1) % d i else -1
theorem code_of_key {d c : Nat → Int} {p : Nat → Bool} {n : Nat} (hd : ∀ k, k < n → 1 ≤ d k) (hc : InG d c p n) {i : Nat} (hi : i < n) (hp : p i = true) : codG d p n (keyG d c p n) i = c i := by
  obtain ⟨r, h0, h1, h2⟩ := keyG_split (i := i + 1) hd hc (n - i - 1) (by omega)
  have e : i + 1 + (n - i - 1) = n := by omega
  rw [e] at h2
  unfold codG
  rw [if_pos hp, div_splitG h2 h0 h1]
  obtain ⟨c0, c1⟩ := hc i hi hp
  have h3 : keyG d c p (i + 1) = keyG d c p i * d i + c i := by
    show (if p i = true then _ else _) = _
    rw [if_pos hp]
  exact mod_splitG h3 c0 c1
theorem cod_range {d : Nat → Int} {p : Nat → Bool} {n : Nat} (hd : ∀ k, k < n → 1 ≤ d k) (q : Int) : InG d (codG d p n q) p n := fun i hi hp => by
  have := hd i hi
  unfold codG
  rw [if_pos hp]
  exact ⟨Int.emod_nonneg _ (by omega), Int.emod_lt_of_pos _ (by omega)⟩
theorem key_of_cod {d : Nat → Int} {p : Nat → Bool} {n : Nat} (hd : ∀ k, k < n → 1 ≤ d k) {q : Int} (h0 : 0 ≤ q) (h1 : q < numG d p n) : ∀ i, i ≤ n → keyG d (codG d p n q) p i = q / tailG d p i (n - i)
  | 0, _ => by
    rw [Nat.sub_zero, tailG_num]
    exact (Int.ediv_eq_zero_of_lt h0 h1).symm
  | i + 1, h => by
    have ih := key_of_cod hd h0 h1 i (by omega)
    have hdi := hd i (by omega)
    have e : n - i = n - i - 1 + 1 := by omega
    have e2 : n - (i + 1) = n - i - 1 := by omega
    have ht := tailG_pos (p := p) (i := i + 1) hd (n - i - 1) (by omega)
    rw [e, tailG_cons] at ih
    rw [e2]
    show (if p i = true then keyG d (codG d p n q) p i * d i + codG d p n q i else keyG d (codG d p n q) p i) = _
    by_cases hp : p i = true
    · rw [if_pos hp, ih, if_pos hp]
      unfold codG
      rw [if_pos hp, Int.mul_comm (d i), ← Int.ediv_ediv_of_nonneg (by omega), Int.emod_def, Int.mul_comm (d i)]
      omega
    · rw [if_neg hp, ih, if_neg hp, Int.one_mul]
theorem of_codes {d : Nat → Int} {p : Nat → Bool} {n : Nat} (hd : ∀ k, k < n → 1 ≤ d k) {q : Int} (h0 : 0 ≤ q) (h1 : q < numG d p n) : keyG d (codG d p n q) p n = q := by
  rw [key_of_cod hd h0 h1 n (Nat.le_refl _), Nat.sub_self]
  simp [tailG]
theorem keyG_congr {d c c' : Nat → Int} {p : Nat → Bool} : ∀ {n : Nat}, (∀ k, k < n → p k = true → c k = c' k) → keyG d c p n = keyG d c' p n
  | 0, _ => rfl
  | n + 1, h => by
    have ih := keyG_congr (d := d) (n := n) fun k hk hp => h k (by omega) hp
    unfold keyG
    by_cases hp : p n = true
    · rw [if_pos hp, if_pos hp, ih, h n (by omega) hp]
    · rw [if_neg hp, if_neg hp, ih]
/-- A key of one set, as a key of another. -/
def downG (d : Nat → Int) (p p' : Nat → Bool) (n : Nat) (q : Int) : Int := keyG d (codG d p n q) p' n
theorem in_sub {d c : Nat → Int} {p p' : Nat → Bool} {n : Nat} (h : InG d c p n) (hs : ∀ k, k < n → p' k = true → p k = true) : InG d c p' n := fun k hk hp => h k hk (hs k hk hp)
theorem down_range {d : Nat → Int} {p p' : Nat → Bool} {n : Nat} (hd : ∀ k, k < n → 1 ≤ d k) (hs : ∀ k, k < n → p' k = true → p k = true) (q : Int) : 0 ≤ downG d p p' n q ∧ downG d p p' n q < numG d p' n :=
  keyG_range hd (in_sub (cod_range hd q) hs)
theorem down_twice {d : Nat → Int} {a b c : Nat → Bool} {n : Nat} (hd : ∀ k, k < n → 1 ≤ d k) (hb : ∀ k, k < n → b k = true → a k = true) (hc : ∀ k, k < n → c k = true → b k = true) (q : Int) : downG d b c n (downG d a b n q) = downG d a c n q :=
  keyG_congr fun k hk hp => code_of_key hd (in_sub (cod_range hd q) hb) hk (hc k hk hp)
/-- The first code that differs decides. -/
theorem keyG_less {d c c' : Nat → Int} {p : Nat → Bool} {n i : Nat} (hd : ∀ k, k < n → 1 ≤ d k) (hc : InG d c p n) (hc' : InG d c' p n) (hi : i < n) (hp : p i = true) (he : ∀ k, k < i → p k = true → c k = c' k) (hlt : c i < c' i) : keyG d c p n < keyG d c' p n := by
  obtain ⟨r, h0, h1, h2⟩ := keyG_split (i := i + 1) hd hc (n - i - 1) (by omega)
  obtain ⟨r', k0, k1, k2⟩ := keyG_split (i := i + 1) hd hc' (n - i - 1) (by omega)
  have e : i + 1 + (n - i - 1) = n := by omega
  rw [e] at h2 k2
  have e1 : keyG d c p (i + 1) = keyG d c p i * d i + c i := by
    show (if p i = true then _ else _) = _
    rw [if_pos hp]
  have e2 : keyG d c' p (i + 1) = keyG d c' p i * d i + c' i := by
    show (if p i = true then _ else _) = _
    rw [if_pos hp]
  have e3 := keyG_congr (d := d) (n := i) he
  have hlt2 : keyG d c p (i + 1) + 1 ≤ keyG d c' p (i + 1) := by rw [e1, e2, e3]; omega
  have ht := tailG_pos (p := p) (i := i + 1) hd (n - i - 1) (by omega)
  have h3 := Int.mul_le_mul_of_nonneg_right hlt2 (show 0 ≤ tailG d p (i + 1) (n - i - 1) by omega)
  rw [Int.add_mul, Int.one_mul] at h3
  omega
/-- What dividing step by step leaves, from the last dimension on. -/
theorem rest_stepG {d : Nat → Int} {p : Nat → Bool} {n : Nat} (hd : ∀ k, k < n → 1 ≤ d k) (q : Int) {i : Nat} (hi : i < n) : q / tailG d p i (n - i) = if p i = true then q / tailG d p (i + 1) (n - (i + 1)) / d i else q / tailG d p (i + 1) (n - (i + 1)) := by
  have ht := tailG_pos (p := p) (i := i + 1) hd (n - i - 1) (by omega)
  have e : n - i = n - i - 1 + 1 := by omega
  have e2 : n - (i + 1) = n - i - 1 := by omega
  rw [e2, e, tailG_cons]
  split
  · rw [Int.mul_comm (d i), ← Int.ediv_ediv_of_nonneg (by omega)]
    rfl
  · rw [Int.one_mul]
    rfl
/-- The k-th dimension is in a set. -/
def bitG (m : Int) (k : Nat) : Bool := decide (m / 2 ^ k % 2 = 1)
theorem keys_num (ds : List (ByteArray × Int)) (m : Int) : ∀ n, keysL ds m n = numG (dz ds) (bitG m) n
  | 0 => rfl
  | n + 1 => by
    have ih := keys_num ds m n
    unfold keysL numG bitG
    rw [ih]
    by_cases h : m / 2 ^ n % 2 = 1
    · rw [if_pos h, if_pos (decide_eq_true h)]; rfl
    · rw [if_neg h, if_neg (by rw [decide_eq_false h]; decide)]; rfl
theorem sizes_one {ds : List (ByteArray × Int)} (h : sizB ds = true) : ∀ k, k < ds.length → 1 ≤ dz ds k := fun k hk => (siz_get h hk).1
/-- A key of codes, of a schema that is right: below the number of keys, and that is at most 2^40. -/
theorem key_fits {ds : List (ByteArray × Int)} {c : Nat → Int} {m : Int} (h : sizB ds = true) (hc : InG (dz ds) c (bitG m) ds.length) : 0 ≤ keyG (dz ds) c (bitG m) ds.length ∧ keyG (dz ds) c (bitG m) ds.length < keysL ds m ds.length ∧ keysL ds m ds.length ≤ 1099511627776 := by
  have h1 := keyG_range (sizes_one h) hc
  have h2 := keys_range m h ds.length (Nat.le_refl _)
  have h3 := prod_pos h ds.length (Nat.le_refl _)
  rw [← keys_num] at h1
  omega
end Go.Proofs.Ytgbeedjcliajfaa
