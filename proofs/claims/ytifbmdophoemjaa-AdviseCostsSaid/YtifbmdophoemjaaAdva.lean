/- Layer 18: what views cost, what a view saves, which one saves most, and why a few that are chosen are good: pure. -/
import Derived.Test.YtifbmdophoemjaaLatb
namespace Go.Proofs.Ytifbmdophoemjaa
set_option maxRecDepth 100000
set_option linter.unusedVariables false
/-- A sum over the first numbers. -/
def sumK (f : Nat → Int) : Nat → Int
  | 0 => 0
  | k + 1 => sumK f k + f k
theorem sumK_add (f g : Nat → Int) : ∀ k, sumK (fun i => f i + g i) k = sumK f k + sumK g k
  | 0 => rfl
  | k + 1 => by
    show sumK _ k + (f k + g k) = (sumK f k + f k) + (sumK g k + g k)
    rw [sumK_add f g k]; omega
theorem sumK_sub (f g : Nat → Int) : ∀ k, sumK (fun i => f i - g i) k = sumK f k - sumK g k
  | 0 => rfl
  | k + 1 => by
    show sumK _ k + (f k - g k) = (sumK f k + f k) - (sumK g k + g k)
    rw [sumK_sub f g k]; omega
theorem sumK_le {f g : Nat → Int} : ∀ {k}, (∀ i, i < k → f i ≤ g i) → sumK f k ≤ sumK g k
  | 0, _ => Int.le_refl _
  | k + 1, h => by
    have h1 := sumK_le (k := k) fun i hi => h i (by omega)
    have h2 := h k (by omega)
    show sumK f k + f k ≤ sumK g k + g k
    omega
theorem sumK_eq {f g : Nat → Int} : ∀ {k}, (∀ i, i < k → f i = g i) → sumK f k = sumK g k
  | 0, _ => rfl
  | k + 1, h => by
    show sumK f k + f k = sumK g k + g k
    rw [sumK_eq (k := k) fun i hi => h i (by omega), h k (by omega)]
theorem sumK_range {f : Nat → Int} {B : Int} : ∀ {k : Nat}, (∀ i, i < k → 0 ≤ f i ∧ f i ≤ B) → 0 ≤ sumK f k ∧ sumK f k ≤ k * B
  | 0, _ => by simp [sumK]
  | k + 1, h => by
    obtain ⟨h1, h2⟩ := sumK_range (k := k) fun i hi => h i (by omega)
    obtain ⟨h3, h4⟩ := h k (by omega)
    have e : ((k + 1 : Nat) : Int) * B = k * B + B := by rw [Int.natCast_add, Int.add_mul]; omega
    rw [e]
    show 0 ≤ sumK f k + f k ∧ sumK f k + f k ≤ _
    omega
/-- The sizes: how large the base is, how large a view is. -/
def baseN (s : List Int) : Int := s.getD (s.length - 1) 0
/-- How large the smallest view is that serves a set. -/
def leastN (s : List Int) (vs : List Nat) (i : Nat) : Int := vs.foldl (fun m v => if subN i v = true then min m (s.getD v 0) else m) (baseN s)
theorem least_nil (s : List Int) (i : Nat) : leastN s [] i = baseN s := rfl
theorem least_snoc (s : List Int) (vs : List Nat) (v i : Nat) : leastN s (vs ++ [v]) i = if subN i v = true then min (leastN s vs i) (s.getD v 0) else leastN s vs i := by
  unfold leastN; rw [List.foldl_append]; rfl
theorem least_mono (s : List Int) {i v : Nat} (h : subN i v = true) (vs : List Nat) : leastN s vs i ≤ leastN s vs v := by
  refine snoc_ind (P := fun vs => leastN s vs i ≤ leastN s vs v) (Int.le_refl _) (fun l a ih => ?_) vs
  rw [least_snoc, least_snoc]
  by_cases h1 : subN v a = true
  · rw [if_pos h1, if_pos (subN_trans h h1)]; omega
  · rw [if_neg h1]; split <;> omega
/-- Sizes that may be: from 1 to 2^40. -/
def Okz (s : List Int) : Prop := ∀ x ∈ s, 1 ≤ x ∧ x ≤ 1099511627776
theorem Okz.at {s : List Int} (h : Okz s) {i : Nat} (hi : i < s.length) : 1 ≤ s.getD i 0 ∧ s.getD i 0 ≤ 1099511627776 := by
  have e : s.getD i 0 = s[i] := by simp [List.getD, hi]
  rw [e]
  exact h _ (List.getElem_mem hi)
theorem least_range {s : List Int} (h : Okz s) (h0 : 0 < s.length) (i : Nat) {vs : List Nat} (hv : ∀ v ∈ vs, v < s.length) : 1 ≤ leastN s vs i ∧ leastN s vs i ≤ 1099511627776 := by
  revert hv
  refine snoc_ind (P := fun vs => (∀ v ∈ vs, v < s.length) → 1 ≤ leastN s vs i ∧ leastN s vs i ≤ 1099511627776) (fun _ => h.at (by omega)) (fun l a ih hv => ?_) vs
  have h1 := ih fun v hv' => hv v (List.mem_append_left _ hv')
  have h2 := h.at (hv a (by simp))
  rw [least_snoc]
  split <;> omega
theorem least_base (s : List Int) (i : Nat) (vs : List Nat) : leastN s vs i ≤ baseN s := by
  refine snoc_ind (P := fun vs => leastN s vs i ≤ baseN s) (Int.le_refl _) (fun l a ih => ?_) vs
  rw [least_snoc]
  split <;> omega
theorem least_mem (s : List Int) {v : Nat} : ∀ {vs : List Nat}, v ∈ vs → leastN s vs v ≤ s.getD v 0 := by
  intro vs
  refine snoc_ind (P := fun vs => v ∈ vs → leastN s vs v ≤ s.getD v 0) (fun h => by cases h) (fun l a ih h => ?_) vs
  rw [least_snoc]
  rcases List.mem_append.1 h with q | q
  · have := ih q
    split <;> omega
  · obtain rfl : v = a := by simpa using q
    rw [if_pos (subN_refl v)]; omega
/-- What the views cost, what one more view saves. -/
def costN (s : List Int) (vs : List Nat) : Int := sumK (leastN s vs) s.length
def gainN (s : List Int) (vs : List Nat) (v i : Nat) : Int := if subN i v = true then leastN s vs i - min (leastN s vs i) (s.getD v 0) else 0
def savedN (s : List Int) (vs : List Nat) (v : Nat) : Int := sumK (gainN s vs v) s.length
theorem gain_nn (s : List Int) (vs : List Nat) (v i : Nat) : 0 ≤ gainN s vs v i := by unfold gainN; split <;> omega
theorem gain_least (s : List Int) (vs : List Nat) (v i : Nat) : leastN s (vs ++ [v]) i = leastN s vs i - gainN s vs v i := by
  rw [least_snoc]; unfold gainN; split <;> omega
theorem cost_snoc (s : List Int) (vs : List Nat) (v : Nat) : costN s (vs ++ [v]) = costN s vs - savedN s vs v := by
  unfold costN savedN
  rw [← sumK_sub]
  exact sumK_eq fun i _ => gain_least s vs v i
theorem saved_nn (s : List Int) (vs : List Nat) (v : Nat) : 0 ≤ savedN s vs v := by
  have : sumK (fun _ => 0) s.length ≤ savedN s vs v := sumK_le fun i _ => gain_nn s vs v i
  have e : ∀ n, sumK (fun _ => 0) n = 0 := fun n => by induction n with
    | zero => rfl
    | succ n ih => show sumK _ n + 0 = 0; rw [ih]; rfl
  rw [e] at this
  exact this
theorem gain_none {s : List Int} {vs : List Nat} {v : Nat} (h : leastN s vs v ≤ s.getD v 0) (i : Nat) : gainN s vs v i = 0 := by
  unfold gainN
  split
  · rename_i hs
    have := least_mono s hs vs
    omega
  · rfl
theorem least_same {s : List Int} {vs : List Nat} {v : Nat} (h : leastN s vs v ≤ s.getD v 0) (i : Nat) : leastN s (vs ++ [v]) i = leastN s vs i := by
  rw [gain_least, gain_none h]; omega
theorem saved_none {s : List Int} {vs : List Nat} {v : Nat} (h : leastN s vs v ≤ s.getD v 0) : savedN s vs v = 0 := by
  have h1 : savedN s vs v ≤ sumK (fun _ => 0) s.length := sumK_le fun i _ => by rw [gain_none h]; omega
  have e : ∀ n, sumK (fun _ => 0) n = 0 := fun n => by induction n with
    | zero => rfl
    | succ n ih => show sumK _ n + 0 = 0; rw [ih]; rfl
  rw [e] at h1
  have := saved_nn s vs v
  omega
theorem cost_range {s : List Int} (h : Okz s) (h0 : 0 < s.length) (h64 : s.length ≤ 64) {vs : List Nat} (hv : ∀ v ∈ vs, v < s.length) : 0 ≤ costN s vs ∧ costN s vs ≤ 70368744177664 := by
  have h1 := sumK_range (f := leastN s vs) (B := 1099511627776) (k := s.length) fun i _ => by
    have := least_range h h0 i hv
    omega
  unfold costN
  omega
/-- Which of the first numbers has most, and how much; none where all have nothing. -/
def bestN (f : Nat → Int) : Nat → Nat × Int
  | 0 => (0, 0)
  | k + 1 => if (bestN f k).2 < f k then (k, f k) else bestN f k
theorem best_nn (f : Nat → Int) : ∀ k, 0 ≤ (bestN f k).2
  | 0 => Int.le_refl _
  | k + 1 => by
    have := best_nn f k
    unfold bestN
    split
    · show 0 ≤ f k; omega
    · exact this
theorem best_most (f : Nat → Int) : ∀ k i, i < k → f i ≤ (bestN f k).2
  | 0, i, h => by omega
  | k + 1, i, h => by
    by_cases e : i = k
    · subst e
      unfold bestN
      split
      · exact Int.le_refl _
      · omega
    · have := best_most f k i (by omega)
      unfold bestN
      split
      · show f i ≤ f k; omega
      · exact this
theorem best_is (f : Nat → Int) : ∀ k, (bestN f k).2 ≠ 0 → (bestN f k).1 < k ∧ f (bestN f k).1 = (bestN f k).2
  | 0, h => absurd rfl h
  | k + 1, h => by
    unfold bestN at h ⊢
    split
    · exact ⟨Nat.lt_succ_self k, rfl⟩
    · rename_i q
      rw [if_neg q] at h
      have := best_is f k h
      exact ⟨by omega, this.2⟩
theorem best_lt (f : Nat → Int) (k : Nat) : (bestN f k).1 < k ∨ (bestN f k).1 = 0 := by
  induction k with
  | zero => exact .inr rfl
  | succ k ih =>
    unfold bestN
    split
    · exact .inl (Nat.lt_succ_self k)
    · rcases ih with h | h
      · exact .inl (by omega)
      · exact .inr h
/-- One after the other: what saves most. -/
def stepN (s : List Int) (vs : List Nat) : Nat × Int := bestN (savedN s vs) s.length
def choN (s : List Int) : Nat → List Nat
  | 0 => []
  | k + 1 => if (stepN s (choN s k)).2 = 0 then choN s k else choN s k ++ [(stepN s (choN s k)).1]
theorem cho_stop {s : List Int} {j : Nat} (h : (stepN s (choN s j)).2 = 0) : ∀ k, choN s (j + k) = choN s j
  | 0 => rfl
  | k + 1 => by
    show (if (stepN s (choN s (j + k))).2 = 0 then choN s (j + k) else _) = _
    rw [cho_stop h k, if_pos h]
theorem cho_end {s : List Int} {j k : Nat} (h : (stepN s (choN s j)).2 = 0) (hk : j ≤ k) : choN s k = choN s j := by
  have := cho_stop h (k - j)
  rwa [show j + (k - j) = k by omega] at this
theorem cho_next {s : List Int} {j : Nat} (h : ¬ (stepN s (choN s j)).2 = 0) : choN s (j + 1) = choN s j ++ [(stepN s (choN s j)).1] := by
  show (if _ then _ else _) = _
  rw [if_neg h]
theorem step_new {s : List Int} {vs : List Nat} (h : ¬ (stepN s vs).2 = 0) : (stepN s vs).1 < s.length ∧ (stepN s vs).1 ∉ vs := by
  obtain ⟨h1, h2⟩ := best_is (savedN s vs) s.length h
  refine ⟨h1, fun hm => h ?_⟩
  show (bestN (savedN s vs) s.length).2 = 0
  rw [← h2]
  exact saved_none (least_mem s hm)
theorem cho_is (s : List Int) : ∀ k, (choN s k).Nodup ∧ (∀ v ∈ choN s k, v < s.length) ∧ (choN s k).length ≤ k
  | 0 => ⟨List.nodup_nil, (fun v (h : v ∈ ([] : List Nat)) => nomatch h), Nat.le_refl _⟩
  | k + 1 => by
    obtain ⟨h1, h2, h3⟩ := cho_is s k
    by_cases h : (stepN s (choN s k)).2 = 0
    · have e : choN s (k + 1) = choN s k := cho_stop h 1
      rw [e]
      exact ⟨h1, h2, by omega⟩
    · obtain ⟨h4, h5⟩ := step_new h
      rw [cho_next h]
      refine ⟨?_, fun v hv => ?_, by rw [List.length_append]; show _ + 1 ≤ _; omega⟩
      · rw [List.nodup_append]
        refine ⟨h1, by simp, fun a ha b hb e => ?_⟩
        subst e
        obtain rfl := List.mem_singleton.1 hb
        exact h5 ha
      · rcases List.mem_append.1 hv with q | q
        · exact h2 v q
        · obtain rfl := List.mem_singleton.1 q
          exact h4
theorem cho_len (s : List Int) (k : Nat) : (choN s k).length ≤ s.length := by
  obtain ⟨h1, h2, -⟩ := cho_is s k
  have := h1.length_le_of_subset (l₂ := List.range s.length) fun v hv => List.mem_range.2 (h2 v hv)
  rwa [List.length_range] at this
theorem cost_next (s : List Int) (k : Nat) : costN s (choN s (k + 1)) = costN s (choN s k) - (stepN s (choN s k)).2 := by
  by_cases h : (stepN s (choN s k)).2 = 0
  · have e : choN s (k + 1) = choN s k := cho_stop h 1
    rw [e, h]; omega
  · rw [cho_next h, cost_snoc]
    congr 1
    exact (best_is (savedN s (choN s k)) s.length h).2
/-- What any views have over some is no more than what each one alone would save. -/
theorem least_over (s : List Int) (vs os : List Nat) (i : Nat) : leastN s vs i - leastN s os i ≤ (os.map fun o => gainN s vs o i).sum ∧ 0 ≤ (os.map fun o => gainN s vs o i).sum := by
  refine snoc_ind (P := fun os => leastN s vs i - leastN s os i ≤ (os.map fun o => gainN s vs o i).sum ∧ 0 ≤ (os.map fun o => gainN s vs o i).sum) ?_ (fun l a ih => ?_) os
  · have := least_base s i vs
    rw [least_nil]
    simp
    omega
  · rw [List.map_append, List.sum_append, least_snoc]
    have e : ([a].map fun o => gainN s vs o i).sum = gainN s vs a i := by simp
    rw [e]
    have h1 := gain_nn s vs a i
    refine ⟨?_, by omega⟩
    split
    · rename_i hs
      have h2 : gainN s vs a i = leastN s vs i - min (leastN s vs i) (s.getD a 0) := by unfold gainN; rw [if_pos hs]
      omega
    · omega
theorem sumK_list (g : Nat → Nat → Int) (os : List Nat) : ∀ n, sumK (fun i => (os.map fun o => g o i).sum) n = (os.map fun o => sumK (g o) n).sum := by
  induction os with
  | nil => intro n; induction n with
    | zero => rfl
    | succ n ih => show sumK _ n + 0 = _; rw [ih]; rfl
  | cons a os ih =>
    intro n
    rw [List.map_cons, List.sum_cons, ← ih n, ← sumK_add]
    exact sumK_eq fun i _ => by rw [List.map_cons, List.sum_cons]
theorem cost_over (s : List Int) (vs os : List Nat) : costN s vs - costN s os ≤ (os.map fun o => savedN s vs o).sum := by
  unfold costN savedN
  rw [← sumK_sub, ← sumK_list]
  exact sumK_le fun i _ => (least_over s vs os i).1
theorem saved_step (s : List Int) (vs : List Nat) {o : Nat} (h : o < s.length) : savedN s vs o ≤ (stepN s vs).2 := best_most (savedN s vs) s.length o h
theorem good_two (s : List Int) {a b : Nat} (ha : a < s.length) (hb : b < s.length) : 3 * (costN s [] - costN s [a, b]) ≤ 4 * (costN s [] - costN s (choN s 2)) := by
  have e1 : costN s (choN s 1) = costN s [] - (stepN s (choN s 0)).2 := cost_next s 0
  have e2 := cost_next s 1
  have h1 := cost_over s (choN s 0) [a, b]
  have h2 := cost_over s (choN s 1) [a, b]
  have a1 := saved_step s (choN s 0) ha
  have a2 := saved_step s (choN s 1) ha
  have b1 := saved_step s (choN s 0) hb
  have b2 := saved_step s (choN s 1) hb
  simp at h1 h2
  have e0 : costN s (choN s 0) = costN s [] := rfl
  have e3 : choN s (1 + 1) = choN s 2 := rfl
  rw [e3] at e2
  omega
theorem good_three (s : List Int) {a b c : Nat} (ha : a < s.length) (hb : b < s.length) (hc : c < s.length) : 19 * (costN s [] - costN s [a, b, c]) ≤ 27 * (costN s [] - costN s (choN s 3)) := by
  have e1 : costN s (choN s 1) = costN s [] - (stepN s (choN s 0)).2 := cost_next s 0
  have e2 : costN s (choN s 2) = _ := cost_next s 1
  have e3 : costN s (choN s 3) = _ := cost_next s 2
  have h1 := cost_over s (choN s 0) [a, b, c]
  have h2 := cost_over s (choN s 1) [a, b, c]
  have h3 := cost_over s (choN s 2) [a, b, c]
  have a1 := saved_step s (choN s 0) ha
  have a2 := saved_step s (choN s 1) ha
  have a3 := saved_step s (choN s 2) ha
  have b1 := saved_step s (choN s 0) hb
  have b2 := saved_step s (choN s 1) hb
  have b3 := saved_step s (choN s 2) hb
  have c1 := saved_step s (choN s 0) hc
  have c2 := saved_step s (choN s 1) hc
  have c3 := saved_step s (choN s 2) hc
  simp at h1 h2 h3
  have e0 : costN s (choN s 0) = costN s [] := rfl
  omega
end Go.Proofs.Ytifbmdophoemjaa
