/- Layer 16, plain facts: heaps as lists; what is popped stands in order. -/
import Derived.Test.YtgiekjckfgdfnaaCodeb
namespace Go.Proofs.Ytgiekjckfgdfnaa
set_option maxRecDepth 100000
set_option linter.unusedVariables false
/-- A list's number. -/
def hg (L : List Nat) (i : Nat) : Nat := L.getD i 0
theorem hg_set {L : List Nat} {i j x : Nat} (hi : i < L.length) : hg (L.set i x) j = if j = i then x else hg L j := by
  unfold hg
  rw [List.getD_eq_getElem?_getD, List.getD_eq_getElem?_getD, List.getElem?_set]
  by_cases e : i = j
  · subst e; rw [if_pos rfl, if_pos rfl, if_pos hi]; rfl
  · rw [if_neg e, if_neg (fun q => e q.symm)]
def swapH (L : List Nat) (i j : Nat) : List Nat := (L.set i (hg L j)).set j (hg L i)
theorem swapH_len {L : List Nat} {i j : Nat} : (swapH L i j).length = L.length := by simp [swapH]
theorem swapH_get {L : List Nat} {i j k : Nat} (hi : i < L.length) (hj : j < L.length) : hg (swapH L i j) k = if k = j then hg L i else if k = i then hg L j else hg L k := by
  unfold swapH
  rw [hg_set (by simpa using hj), hg_set hi]
theorem swapH_perm {L : List Nat} {i j : Nat} (hi : i < L.length) (hj : j < L.length) : (swapH L i j).Perm L := by
  have e1 : hg L i = L[i] := by simp [hg, hi]
  have e2 : hg L j = L[j] := by simp [hg, hj]
  unfold swapH
  rw [e1, e2]
  exact List.set_set_perm hi hj
def Child (p c : Nat) : Prop := c = 2 * p + 1 ∨ c = 2 * p + 2
def HeapF (lt : Nat → Nat → Bool) (L : List Nat) (n i0 : Nat) : Prop := ∀ p c, i0 ≤ p → Child p c → c < n → lt (hg L c) (hg L p) = false
def HeapB (lt : Nat → Nat → Bool) (L : List Nat) (n i0 i : Nat) : Prop :=
  (∀ p c, i0 ≤ p → p ≠ i → Child p c → c < n → lt (hg L c) (hg L p) = false) ∧ ∀ p c, i0 ≤ p → Child p i → Child i c → c < n → lt (hg L c) (hg L p) = false
structure OrdH (lt : Nat → Nat → Bool) : Prop where
  asy : ∀ a b, lt a b = true → lt b a = false
  tr : ∀ a b c, lt a b = false → lt b c = false → lt a c = false
  tri : ∀ a b, a ≠ b → lt a b = false → lt b a = true
theorem heap_start {lt : Nat → Nat → Bool} {L : List Nat} {n i0 : Nat} (h : HeapF lt L n (i0 + 1)) : HeapB lt L n i0 i0 :=
  ⟨fun p c hp hne hc hn => h p c (by omega) hc hn, fun p c hp hc _ _ => by unfold Child at hc; omega⟩
theorem heap_leaf {lt : Nat → Nat → Bool} {L : List Nat} {n i0 i : Nat} (h : HeapB lt L n i0 i) (hn : n ≤ 2 * i + 1) : HeapF lt L n i0 := fun p c hp hc hcn => by
  by_cases e : p = i
  · subst e; unfold Child at hc; omega
  · exact h.1 p c hp e hc hcn
theorem heap_stop {lt : Nat → Nat → Bool} {L : List Nat} {n i0 i j : Nat} (o : OrdH lt) (h : HeapB lt L n i0 i) (hm : ∀ c, Child i c → c < n → lt (hg L c) (hg L j) = false) (hs : lt (hg L j) (hg L i) = false) : HeapF lt L n i0 := fun p c hp hc hcn => by
  by_cases e : p = i
  · subst e; exact o.tr _ _ _ (hm c hc hcn) hs
  · exact h.1 p c hp e hc hcn
theorem heap_step {lt : Nat → Nat → Bool} {L : List Nat} {n i0 i j : Nat} (o : OrdH lt) (h : HeapB lt L n i0 i) (hi0 : i0 ≤ i) (hj : Child i j) (hn : j < n) (hnl : n ≤ L.length) (hm : ∀ c, Child i c → c < n → lt (hg L c) (hg L j) = false) (hs : lt (hg L j) (hg L i) = true) : HeapB lt (swapH L i j) n i0 j := by
  have hij : i < j := by unfold Child at hj; omega
  have hil : i < L.length := by omega
  have hjl : j < L.length := by omega
  refine ⟨fun p c hp hne hc hcn => ?_, fun p c hp hpj hjc hcn => ?_⟩
  · rw [swapH_get hil hjl, swapH_get hil hjl, if_neg (show ¬ p = j from hne)]
    by_cases e : p = i
    · subst e
      rw [if_pos rfl]
      by_cases e2 : c = j
      · rw [if_pos e2]; exact o.asy _ _ hs
      · rw [if_neg e2, if_neg (by unfold Child at hc; omega)]; exact hm c hc hcn
    · rw [if_neg e]
      have hcj : ¬ c = j := by unfold Child at hc hj; omega
      rw [if_neg hcj]
      by_cases e3 : c = i
      · subst e3
        rw [if_pos rfl]
        exact h.2 p j hp hc hj hn
      · rw [if_neg e3]; exact h.1 p c hp e hc hcn
  · have hpi : p = i := by unfold Child at hpj hj; omega
    subst hpi
    rw [swapH_get hil hjl, swapH_get hil hjl, if_neg (by unfold Child at hjc; omega), if_neg (by unfold Child at hjc; omega), if_neg (by omega), if_pos rfl]
    exact h.1 j c (by omega) (by omega) hjc hcn
theorem heap_root {lt : Nat → Nat → Bool} {L : List Nat} {n : Nat} (o : OrdH lt) (h : HeapF lt L n 0) : ∀ c, c < n → lt (hg L c) (hg L 0) = false := by
  intro c
  induction c using Nat.strongRecOn with
  | _ c ih =>
    intro hc
    by_cases h0 : c = 0
    · subst h0
      cases e : lt (hg L 0) (hg L 0) with
      | false => rfl
      | true => have := o.asy _ _ e; rw [e] at this; cases this
    · have hch : Child ((c - 1) / 2) c := by unfold Child; omega
      exact o.tr _ _ _ (h _ c (by omega) hch hc) (ih ((c - 1) / 2) (by omega) (by omega))
theorem hg_lt {L : List Nat} {i : Nat} (h : i < L.length) : hg L i = L[i] := by simp [hg, h]
theorem hg_mem {L : List Nat} {i : Nat} (h : i < L.length) : hg L i ∈ L := by rw [hg_lt h]; exact List.getElem_mem h
/-- What down does: from a heap below i0 to one from i0 on. -/
def DownP (lt : Nat → Nat → Bool) (L L' : List Nat) (n i0 : Nat) : Prop := L'.Perm L ∧ HeapF lt L' n i0 ∧ ∀ k, n ≤ k → hg L' k = hg L k
/-- What stands while elements are popped. -/
structure PopI (lt : Nat → Nat → Bool) (N : Nat) (F L : List Nat) : Prop where
  pm : (F ++ L).Perm (List.range N)
  hp : HeapF lt L L.length 0
  pw : F.Pairwise fun a b => lt a b = true
  fl : ∀ f ∈ F, ∀ x ∈ L, lt f x = true
theorem heap_first {lt : Nat → Nat → Bool} {L : List Nat} (h : HeapF lt L L.length 0) (h0 : 0 < L.length) : HeapF lt (swapH L 0 (L.length - 1)) (L.length - 1) 1 := by
  intro p c hp hc hn
  have hcp : p < c := by unfold Child at hc; omega
  rw [swapH_get h0 (by omega), swapH_get h0 (by omega), if_neg (by omega), if_neg (by omega), if_neg (by omega), if_neg (by omega)]
  exact h p c (by omega) hc (by omega)
theorem pop_step {lt : Nat → Nat → Bool} {N : Nat} {F L L2 : List Nat} (o : OrdH lt) (h : PopI lt N F L) (h0 : 0 < L.length) (hd : DownP lt (swapH L 0 (L.length - 1)) L2 (L.length - 1) 0) :
    L2.length = L.length ∧ hg L2 (L.length - 1) = hg L 0 ∧ PopI lt N (F ++ [hg L 0]) (L2.take (L.length - 1)) := by
  obtain ⟨d1, d2, d3⟩ := hd
  have hl : L2.length = L.length := by rw [d1.length_eq, swapH_len]
  have hx : hg L2 (L.length - 1) = hg L 0 := by
    rw [d3 _ (Nat.le_refl _), swapH_get h0 (by omega), if_pos rfl]
  have hsplit : L2 = L2.take (L.length - 1) ++ [hg L 0] := by
    have e := (List.take_append_drop (L.length - 1) L2).symm
    have e2 : L2.drop (L.length - 1) = [hg L 0] := by
      rw [List.drop_eq_getElem_cons (by omega), ← hg_lt (by omega), hx, show L.length - 1 + 1 = L2.length by omega, List.drop_length]
    rw [e2] at e
    exact e
  have hpm : (L2.take (L.length - 1) ++ [hg L 0]).Perm L := by
    rw [← hsplit]
    exact d1.trans (swapH_perm h0 (by omega))
  have hpm2 : (F ++ [hg L 0] ++ L2.take (L.length - 1)).Perm (List.range N) := by
    refine List.Perm.trans ?_ h.pm
    rw [List.append_assoc]
    refine List.Perm.append_left F ?_
    exact (List.perm_append_comm).trans hpm
  have hnd : (F ++ [hg L 0] ++ L2.take (L.length - 1)).Nodup := hpm2.nodup_iff.2 List.nodup_range
  refine ⟨hl, hx, hpm2, fun p c hp hc hn => ?_, ?_, fun f hf x hx2 => ?_⟩
  · have hn2 : c < L.length - 1 := by rw [List.length_take] at hn; omega
    have hcp : p < c := by unfold Child at hc; omega
    have e : ∀ k, k < L.length - 1 → hg (L2.take (L.length - 1)) k = hg L2 k := fun k hk => by
      unfold hg
      rw [List.getD_eq_getElem?_getD, List.getD_eq_getElem?_getD, List.getElem?_take, if_pos hk]
    rw [e c hn2, e p (by omega)]
    exact d2 p c hp hc hn2
  · rw [List.pairwise_append]
    refine ⟨h.pw, List.pairwise_singleton _ _, fun a ha b hb => ?_⟩
    obtain rfl : b = hg L 0 := by simpa using hb
    exact h.fl a ha _ (hg_mem h0)
  · have hxL : x ∈ L := hpm.mem_iff.1 (List.mem_append_left _ hx2)
    rcases List.mem_append.1 hf with hf | hf
    · exact h.fl f hf x hxL
    · obtain rfl : f = hg L 0 := by simpa using hf
      obtain ⟨i, hi, rfl⟩ := List.getElem_of_mem hxL
      have hr := heap_root o h.hp i hi
      rw [hg_lt hi] at hr
      refine o.tri _ _ (fun e => ?_) hr
      rw [List.append_assoc] at hnd
      have := (List.nodup_append.1 hnd).2.1
      rw [List.singleton_append, List.nodup_cons] at this
      exact this.1 (e ▸ hx2)
/-- How many stand ahead of one. -/
def aheadN (lt : Nat → Nat → Bool) (N i : Nat) : Nat := (List.range N).countP fun j => lt j i
theorem irr {lt : Nat → Nat → Bool} (o : OrdH lt) (a : Nat) : lt a a = false := by
  cases e : lt a a with
  | false => rfl
  | true => have := o.asy _ _ e; rw [e] at this; cases this
theorem ahead_pop {lt : Nat → Nat → Bool} {N : Nat} {F L : List Nat} (o : OrdH lt) (h : PopI lt N F L) {t : Nat} (ht : t < F.length) : aheadN lt N (hg F t) = t ∧ hg F t < N := by
  have hm : hg F t ∈ List.range N := h.pm.mem_iff.1 (List.mem_append_left _ (hg_mem ht))
  refine ⟨?_, List.mem_range.1 hm⟩
  have hF : F = F.take t ++ (hg F t :: F.drop (t + 1)) := by
    rw [hg_lt ht, ← List.drop_eq_getElem_cons ht, List.take_append_drop]
  have hpw := h.pw
  rw [hF, List.pairwise_append, List.pairwise_cons] at hpw
  obtain ⟨-, ⟨p2, -⟩, p3⟩ := hpw
  unfold aheadN
  rw [← h.pm.countP_eq, List.countP_append]
  have c1 : L.countP (fun j => lt j (hg F t)) = 0 := by
    rw [List.countP_eq_zero]
    intro x hx
    have := o.asy _ _ (h.fl _ (hg_mem ht) x hx)
    simp [this]
  have c2 : (F.take t).countP (fun j => lt j (hg F t)) = t := by
    rw [List.countP_eq_length.2, List.length_take]
    · omega
    · intro x hx; exact p3 x hx _ (List.mem_cons_self ..)
  have c3 : (hg F t :: F.drop (t + 1)).countP (fun j => lt j (hg F t)) = 0 := by
    rw [List.countP_eq_zero]
    intro x hx
    rcases List.mem_cons.1 hx with rfl | hx
    · simp [irr o]
    · simp [o.asy _ _ (p2 x hx)]
  have c4 : F.countP (fun j => lt j (hg F t)) = t := by
    have := congrArg (List.countP fun j => lt j (hg F t)) hF
    rw [List.countP_append, c2, c3] at this
    omega
  rw [c4, c1, Nat.add_zero]
/-- The row in which each number below m stands at its place. -/
def PutsL (lt : Nat → Nat → Bool) (N m : Nat) (R : List Nat) : Prop := ∀ j, j < m → aheadN lt N j < R.length → hg R (aheadN lt N j) = j
theorem puts_all {lt : Nat → Nat → Bool} {N : Nat} {F L R : List Nat} (o : OrdH lt) (h : PopI lt N F L) (hR : PutsL lt N N R) (hl : R.length = F.length) : R = F := by
  apply List.ext_getElem hl
  intro t h1 h2
  obtain ⟨e1, e2⟩ := ahead_pop o h h2
  have := hR (hg F t) e2 (by omega)
  rw [e1] at this
  rw [← hg_lt h1, ← hg_lt h2]
  exact this
theorem ahead_mono {lt : Nat → Nat → Bool} {N i j : Nat} (o : OrdH lt) (hi : i < N) (h : lt i j = true) : aheadN lt N i < aheadN lt N j := by
  unfold aheadN
  have h1 : ∀ x ∈ List.range N, lt x i = true → lt x j = true := fun x _ hx => by
    cases e : lt x j with
    | true => rfl
    | false =>
      have hji := o.asy _ _ h
      have h2 := o.tr x j i e hji
      rw [h2] at hx; cases hx
  have h2 : ((List.range N).filter fun x => lt x i).length < ((List.range N).filter fun x => lt x j).length := by
    have hs : ((List.range N).filter fun x => lt x i).Sublist ((List.range N).filter fun x => lt x j) := by
      have e : ((List.range N).filter fun x => lt x i) = ((List.range N).filter fun x => lt x j).filter fun x => lt x i := by
        rw [List.filter_filter]
        apply List.filter_congr
        intro x hx
        cases e : lt x i with
        | false => simp
        | true => simp [h1 x hx e]
      rw [e]
      exact List.filter_sublist
    refine Nat.lt_of_le_of_ne hs.length_le fun e => ?_
    have := hs.eq_of_length e
    have hm : i ∈ (List.range N).filter fun x => lt x j := List.mem_filter.2 ⟨List.mem_range.2 hi, h⟩
    rw [← this, List.mem_filter, irr o] at hm
    simp at hm
  rwa [List.countP_eq_length_filter, List.countP_eq_length_filter]
theorem ahead_inj {lt : Nat → Nat → Bool} {N i j : Nat} (o : OrdH lt) (hi : i < N) (hj : j < N) (h : aheadN lt N i = aheadN lt N j) : i = j := by
  by_cases e : i = j
  · exact e
  · cases q : lt i j with
    | true => have := ahead_mono o hi q; omega
    | false => have := ahead_mono o hj (o.tri _ _ e q); omega
theorem puts_step {lt : Nat → Nat → Bool} {N m : Nat} {R : List Nat} (o : OrdH lt) (h : PutsL lt N m R) (hm : m < N) : PutsL lt N (m + 1) (if aheadN lt N m < R.length then R.set (aheadN lt N m) m else R) := by
  intro j hj hl
  by_cases e : aheadN lt N m < R.length
  · rw [if_pos e] at hl ⊢
    rw [hg_set e]
    by_cases q : aheadN lt N j = aheadN lt N m
    · rw [if_pos q]; exact (ahead_inj o (by omega) hm q).symm
    · rw [if_neg q]
      have : j ≠ m := fun k => q (k ▸ rfl)
      exact h j (by omega) (by simpa using hl)
  · rw [if_neg e] at hl ⊢
    have : j ≠ m := fun k => e (k ▸ hl)
    exact h j (by omega) hl
theorem lessL_asym : ∀ {a b : List Int}, lessL a b = true → lessL b a = false
  | _, [], h => by simp [lessL] at h
  | [], _ :: _, _ => by simp [lessL]
  | a :: x, b :: y, h => by
    unfold lessL at h ⊢
    by_cases e : a < b
    · rw [if_neg (by omega), if_pos e]
    · rw [if_neg e] at h
      by_cases e2 : b < a
      · rw [if_pos e2] at h; cases h
      · rw [if_neg e2] at h; rw [if_neg e2, if_neg e]; exact lessL_asym h
theorem lessL_ntr : ∀ {a b c : List Int}, lessL a b = false → lessL b c = false → lessL a c = false
  | _, _, [], _, _ => by simp [lessL]
  | a, [], c :: z, _, h => by simp [lessL] at h
  | [], b :: y, _, h, _ => by simp [lessL] at h
  | a :: x, b :: y, c :: z, h, k => by
    unfold lessL at h k ⊢
    by_cases e1 : a < b
    · rw [if_pos e1] at h; cases h
    · rw [if_neg e1] at h
      by_cases e2 : b < c
      · rw [if_pos e2] at k; cases k
      · rw [if_neg e2] at k
        rw [if_neg (by omega)]
        by_cases e3 : c < a
        · rw [if_pos e3]
        · rw [if_neg e3]
          rw [if_neg (by omega)] at h
          rw [if_neg (by omega)] at k
          exact lessL_ntr h k
/-- Which of two rows stands first: by bytes, then by place. -/
def ltB (b : Nat → List Int) (i j : Nat) : Bool := lessL (b i) (b j) || (decide (i < j) && !lessL (b j) (b i))
theorem ltB_ord (b : Nat → List Int) : OrdH (ltB b) where
  asy i j h := by
    unfold ltB at *
    cases e1 : lessL (b i) (b j) with
    | true =>
      have e2 := lessL_asym e1
      simp [e2]
    | false =>
      rw [e1] at h
      cases e2 : lessL (b j) (b i) with
      | true => rw [e2] at h; simp at h
      | false =>
        rw [e2] at h
        simp at h ⊢
        omega
  tr i j k h1 h2 := by
    unfold ltB at *
    simp only [Bool.or_eq_false_iff, Bool.and_eq_false_iff, decide_eq_false_iff_not, Bool.not_eq_false'] at *
    refine ⟨lessL_ntr h1.1 h2.1, ?_⟩
    rcases h1.2 with h | h
    · rcases h2.2 with k2 | k2
      · left; omega
      · right
        cases e : lessL (b k) (b i) with
        | true => rfl
        | false => exact absurd k2 (by rw [lessL_ntr e h1.1]; decide)
    · right
      cases e : lessL (b k) (b i) with
      | true => rfl
      | false => exact absurd h (by rw [lessL_ntr h2.1 e]; decide)
  tri i j hne h := by
    unfold ltB at *
    simp only [Bool.or_eq_false_iff, Bool.and_eq_false_iff, decide_eq_false_iff_not, Bool.not_eq_false'] at h
    rcases h.2 with k | k
    · cases e : lessL (b j) (b i) with
      | true => rfl
      | false => rw [h.1]; simp; omega
    · rw [k]; rfl
end Go.Proofs.Ytgiekjckfgdfnaa
