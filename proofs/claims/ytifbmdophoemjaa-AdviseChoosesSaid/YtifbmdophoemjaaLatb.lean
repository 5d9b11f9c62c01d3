/- Layer 17: lists of sets: closures, orders, the smallest view: pure. -/
import Derived.Test.YtifbmdophoemjaaLata
namespace Go.Proofs.Ytifbmdophoemjaa
set_option maxRecDepth 100000
set_option linter.unusedVariables false
def Bd (l : List Nat) : Prop := ∀ x ∈ l, x < 4294967296
theorem Bd.nil : Bd [] := fun _ h => by cases h
theorem Bd.append {a b : List Nat} (h : Bd a) (k : Bd b) : Bd (a ++ b) := fun x hx => by
  rcases List.mem_append.1 hx with q | q
  · exact h x q
  · exact k x q
theorem Bd.one {a : Nat} (h : a < 4294967296) : Bd [a] := fun x hx => by simp at hx; omega
theorem Bd.snoc {l : List Nat} {a : Nat} (h : Bd l) (k : a < 4294967296) : Bd (l ++ [a]) := h.append (Bd.one k)
theorem Bd.take {l : List Nat} (h : Bd l) (n : Nat) : Bd (l.take n) := fun x hx => h x (List.mem_of_mem_take hx)
theorem Bd.drop {l : List Nat} (h : Bd l) (n : Nat) : Bd (l.drop n) := fun x hx => h x (List.mem_of_mem_drop hx)
theorem Bd.getD {l : List Nat} (h : Bd l) (i : Nat) : l.getD i 0 < 4294967296 := by
  by_cases hi : i < l.length
  · have e : l.getD i 0 = l[i] := by simp [List.getD, hi]
    rw [e]
    exact h _ (List.getElem_mem hi)
  · have e : l.getD i 0 = 0 := by rw [List.getD_eq_getElem?_getD, List.getElem?_eq_none (show l.length ≤ i by omega)]; rfl
    rw [e]; decide
theorem take_next {l : List Nat} {k : Nat} (hk : k < l.length) : l.take (k + 1) = l.take k ++ [l.getD k 0] := take_snoc l k hk 0
/-- What is in the closure of a list. -/
def inC : List Nat → Nat → Prop
  | [], _ => False
  | a :: l, x => inC l x ∨ x = a ∨ ∃ b, inC l b ∧ x = a &&& b
/-- The same of the list as it is gone through: the last one is the newest. -/
def clo (l : List Nat) (x : Nat) : Prop := inC l.reverse x
theorem clo_nil (x : Nat) : ¬ clo [] x := fun h => h
theorem clo_snoc (l : List Nat) (a x : Nat) : clo (l ++ [a]) x ↔ clo l x ∨ x = a ∨ ∃ b, clo l b ∧ x = a &&& b := by
  unfold clo
  rw [List.reverse_append]
  rfl
/-- What all sets of a list have in common that a set is within; is there one? -/
def allN (x : Nat) (l : List Nat) : Nat := l.foldl (fun acc y => if subN x y = true then acc &&& y else acc) 4294967295
def someN (x : Nat) (l : List Nat) : Bool := l.any (subN x)
theorem all_snoc (x : Nat) (l : List Nat) (a : Nat) : allN x (l ++ [a]) = if subN x a = true then allN x l &&& a else allN x l := by
  unfold allN; rw [List.foldl_append]; rfl
theorem some_snoc (x : Nat) (l : List Nat) (a : Nat) : someN x (l ++ [a]) = (someN x l || subN x a) := by
  unfold someN; simp
theorem all_lt (x : Nat) (l : List Nat) : allN x l < 4294967296 := by
  have h : ∀ (l : List Nat) (acc : Nat), acc < 4294967296 → l.foldl (fun acc y => if subN x y = true then acc &&& y else acc) acc < 4294967296 := by
    intro l
    induction l with
    | nil => intro acc h; exact h
    | cons a l ih =>
      intro acc h
      refine ih _ ?_
      show (if subN x a = true then acc &&& a else acc) < 4294967296
      split
      · exact and_lt32 _ h
      · exact h
  exact h l _ (by decide)
theorem snoc_ind {P : List Nat → Prop} (h0 : P []) (h1 : ∀ l a, P l → P (l ++ [a])) (l : List Nat) : P l := by
  have h : ∀ l : List Nat, P l.reverse := by
    intro l
    induction l with
    | nil => exact h0
    | cons a l ih => rw [List.reverse_cons]; exact h1 _ _ ih
  have := h l.reverse
  rwa [List.reverse_reverse] at this
theorem sub_all {x : Nat} (hx : x < 4294967296) (l : List Nat) : subN x (allN x l) = true := by
  induction l using snoc_ind with
  | h0 => rw [subN_iff, Nat.and_comm]; exact and_full hx
  | h1 l a ih =>
    rw [all_snoc]
    split
    · rename_i h; exact subN_and ih h
    · exact ih
theorem all_anti {x y : Nat} (h : subN x y = true) (l : List Nat) : subN (allN x l) (allN y l) = true := by
  induction l using snoc_ind with
  | h0 => exact subN_refl _
  | h1 l a ih =>
    rw [all_snoc, all_snoc]
    by_cases hy : subN y a = true
    · rw [if_pos hy, if_pos (subN_trans h hy)]
      exact subN_and (subN_trans (and_subN _ _) ih) (and_subN2 _ _)
    · rw [if_neg hy]
      split
      · exact subN_trans (and_subN _ _) ih
      · exact ih
theorem all_none {x : Nat} {l : List Nat} (h : someN x l = false) : allN x l = 4294967295 := by
  induction l using snoc_ind with
  | h0 => rfl
  | h1 l a ih =>
    rw [some_snoc, Bool.or_eq_false_iff] at h
    rw [all_snoc, if_neg (by rw [h.2]; decide)]
    exact ih h.1
theorem clo_of_all {x : Nat} {l : List Nat} (hl : Bd l) (h : someN x l = true) : clo l (allN x l) := by
  induction l using snoc_ind with
  | h0 => cases h
  | h1 l a ih =>
    have hl1 : Bd l := fun y hy => hl y (List.mem_append_left _ hy)
    have ha := hl a (by simp)
    rw [clo_snoc, all_snoc]
    by_cases hs : someN x l = true
    · split
      · exact .inr (.inr ⟨_, ih hl1 hs, Nat.and_comm _ _⟩)
      · exact .inl (ih hl1 hs)
    · have hs2 := eq_false_of_ne_true hs
      rw [some_snoc, hs2, Bool.false_or] at h
      rw [if_pos h, all_none hs2, and_full ha]
      exact .inr (.inl rfl)
theorem clo_all {x : Nat} {l : List Nat} (hl : Bd l) (h : clo l x) : someN x l = true ∧ allN x l = x ∧ x < 4294967296 := by
  induction l using snoc_ind generalizing x with
  | h0 => exact absurd h (clo_nil x)
  | h1 l a ih =>
    have hl1 : Bd l := fun y hy => hl y (List.mem_append_left _ hy)
    have ha := hl a (by simp)
    rw [some_snoc, all_snoc]
    rcases (clo_snoc l a x).1 h with h | h | ⟨b, hb, h⟩
    · obtain ⟨h1, h2, h3⟩ := ih hl1 h
      rw [h1, h2]
      refine ⟨rfl, ?_, h3⟩
      split
      · rename_i q; exact subN_iff.1 q
      · rfl
    · subst h
      rw [subN_refl, Bool.or_true, if_pos rfl]
      have := subN_iff.1 (sub_all ha l)
      exact ⟨rfl, by rw [Nat.and_comm]; exact this, ha⟩
    · have hx : x < 4294967296 := by rw [h]; exact and_lt32 _ ha
      have hxa : subN x a = true := by rw [h]; exact and_subN _ _
      have hxb : subN x b = true := by rw [h]; exact and_subN2 _ _
      rw [hxa, Bool.or_true, if_pos rfl]
      refine ⟨rfl, ?_, hx⟩
      have hb2 := (ih hl1 hb).2.1
      have h3 := all_anti hxb l
      rw [hb2] at h3
      refine subN_anti ?_ (subN_and (sub_all hx l) hxa)
      rw [h]
      exact subN_and (and_subN2 _ _) (subN_trans (and_subN _ _) (h ▸ h3))
/-- What the law asks of a set and a list. -/
def comN (l : List Nat) (x : Nat) : Bool := someN x l && allN x l == x
theorem com_iff {l : List Nat} (hl : Bd l) (x : Nat) : comN l x = true ↔ clo l x := by
  unfold comN
  rw [Bool.and_eq_true, beq_iff_eq]
  constructor
  · rintro ⟨h1, h2⟩
    have := clo_of_all hl h1
    rwa [h2] at this
  · intro h
    exact ⟨(clo_all hl h).1, (clo_all hl h).2.1⟩
/-- Two lists in one strict order with the same elements are one. -/
theorem sorted_one {lt : Nat → Nat → Prop} (irr : ∀ a, ¬ lt a a) (tr : ∀ a b c, lt a b → lt b c → lt a c) {l m : List Nat} (hl : l.Pairwise lt) (hm : m.Pairwise lt) (h : ∀ x, x ∈ l ↔ x ∈ m) : l = m := by
  have nl : l.Nodup := hl.imp (S := (· ≠ ·)) (fun {a b} h e => irr a (by rw [← e] at h; exact h))
  have nm : m.Nodup := hm.imp (S := (· ≠ ·)) (fun {a b} h e => irr a (by rw [← e] at h; exact h))
  have hp : l.Perm m := (List.perm_ext_iff_of_nodup nl nm).2 h
  exact hp.eq_of_pairwise (fun a b _ _ h1 h2 => absurd (tr a b a h1 h2) (irr a)) hl hm
/-- The order of 17.2. -/
def ltO (a b : Nat) : Prop := cntN 32 b < cntN 32 a ∨ (cntN 32 a = cntN 32 b ∧ a < b)
theorem ltO_irr (a : Nat) : ¬ ltO a a := by unfold ltO; omega
theorem ltO_tr (a b c : Nat) (h : ltO a b) (k : ltO b c) : ltO a c := by unfold ltO at *; omega
/-- The elements of a list with so many, in rising order. -/
def hasN (l : List Nat) (a : Nat) : Bool := l.any (· == a)
theorem hasN_iff {l : List Nat} {a : Nat} : hasN l a = true ↔ a ∈ l := by simp [hasN]
/-- A rising list with one more. -/
def atN (l : List Nat) (a : Nat) : Nat := l.findIdx (fun x => !decide (x < a))
def putN (l : List Nat) (a : Nat) : List Nat := if hasN l a = true then l else l.take (atN l a) ++ [a] ++ l.drop (atN l a)
theorem atN_le (l : List Nat) (a : Nat) : atN l a ≤ l.length := List.findIdx_le_length
theorem atN_is {l : List Nat} {a k : Nat} (hk : k ≤ l.length) (h1 : ∀ j, j < k → l.getD j 0 < a) (h2 : k < l.length → ¬ l.getD k 0 < a) : atN l a = k := by
  unfold atN
  by_cases hlt : k < l.length
  · refine (List.findIdx_eq hlt).2 ⟨?_, fun j hj => ?_⟩
    · have := h2 hlt
      have e : l.getD k 0 = l[k] := by simp [List.getD, hlt]
      rw [e] at this
      simpa using this
    · have := h1 j hj
      have e : l.getD j 0 = l[j]'(by omega) := by simp [List.getD, show j < l.length by omega]
      rw [e] at this
      simpa using this
  · have e : k = l.length := by omega
    rw [e]
    refine List.findIdx_eq_length.2 fun x hx => ?_
    obtain ⟨j, hj, rfl⟩ := List.getElem_of_mem hx
    have := h1 j (by omega)
    have e : l.getD j 0 = l[j] := by simp [List.getD, hj]
    rw [e] at this
    simpa using this
theorem put_mem (l : List Nat) (a x : Nat) : x ∈ putN l a ↔ x ∈ l ∨ x = a := by
  unfold putN
  split
  · rename_i h
    rw [hasN_iff] at h
    constructor
    · exact .inl
    · rintro (q | rfl)
      · exact q
      · exact h
  · rw [List.mem_append, List.mem_append, List.mem_singleton]
    have := List.take_append_drop (atN l a) l
    constructor
    · rintro ((q | q) | q)
      · exact .inl (List.mem_of_mem_take q)
      · exact .inr q
      · exact .inl (List.mem_of_mem_drop q)
    · rintro (q | q)
      · rw [← this, List.mem_append] at q
        rcases q with q | q
        · exact .inl (.inl q)
        · exact .inr q
      · exact .inl (.inr q)
theorem put_sorted {l : List Nat} (h : l.Pairwise (· < ·)) (a : Nat) : (putN l a).Pairwise (· < ·) := by
  unfold putN
  split
  · exact h
  · rename_i hn
    have hn2 : a ∉ l := fun q => hn (hasN_iff.2 q)
    have hlow : ∀ x ∈ l.take (atN l a), x < a := by
      intro x hx
      obtain ⟨j, hj, rfl⟩ := List.getElem_of_mem hx
      rw [List.length_take] at hj
      have hj2 : j < l.findIdx (fun x => !decide (x < a)) := by unfold atN at hj; omega
      have := List.not_of_lt_findIdx hj2
      rw [List.getElem_take]
      simpa using this
    have hhigh : ∀ x ∈ l.drop (atN l a), a < x := by
      intro x hx
      obtain ⟨j, hj, rfl⟩ := List.getElem_of_mem hx
      rw [List.length_drop] at hj
      have hb : atN l a < l.length := by omega
      have h0 : ¬ l[atN l a] < a := by
        have := List.findIdx_getElem (p := fun x => !decide (x < a)) (xs := l) (w := hb)
        have h2 : (!decide (l[atN l a] < a)) = true := this
        intro q
        rw [decide_eq_true q] at h2
        cases h2
      have h1 : l[atN l a] ≠ a := fun e => hn2 (e ▸ List.getElem_mem hb)
      rw [List.getElem_drop]
      by_cases hj0 : j = 0
      · subst hj0
        simp only [Nat.add_zero]
        omega
      · have := List.pairwise_iff_getElem.1 h (atN l a) (atN l a + j) hb (by omega) (by omega)
        omega
    rw [List.append_assoc, List.pairwise_append]
    refine ⟨h.sublist (List.take_sublist _ _), ?_, fun x hx y hy => ?_⟩
    · exact List.pairwise_cons.2 ⟨hhigh, h.sublist (List.drop_sublist _ _)⟩
    · have h1 := hlow x hx
      rcases List.mem_cons.1 hy with q | q
      · omega
      · have := hhigh y q; omega
/-- The elements of l with n, put one behind the other; the reference's order. -/
def sameN (l : List Nat) (n : Nat) : List Nat := l.foldl (fun acc a => if cntN 32 a = n then putN acc a else acc) []
theorem same_snoc (l : List Nat) (n a : Nat) : sameN (l ++ [a]) n = if cntN 32 a = n then putN (sameN l n) a else sameN l n := by
  simp only [sameN, List.foldl_append, List.foldl_cons, List.foldl_nil]
theorem same_sorted (l : List Nat) (n : Nat) : (sameN l n).Pairwise (· < ·) := by
  induction l using snoc_ind with
  | h0 => exact List.Pairwise.nil
  | h1 l a ih =>
    rw [same_snoc]
    split
    · exact put_sorted ih a
    · exact ih
theorem same_mem (l : List Nat) (n x : Nat) : x ∈ sameN l n ↔ x ∈ l ∧ cntN 32 x = n := by
  induction l using snoc_ind with
  | h0 => simp [sameN]
  | h1 l a ih =>
    rw [same_snoc]
    split
    · rename_i h
      rw [put_mem, ih, List.mem_append, List.mem_singleton]
      constructor
      · rintro (q | rfl)
        · exact ⟨.inl q.1, q.2⟩
        · exact ⟨.inr rfl, h⟩
      · rintro ⟨q | q, q2⟩
        · exact .inl ⟨q, q2⟩
        · exact .inr q
    · rename_i h
      rw [ih, List.mem_append, List.mem_singleton]
      constructor
      · rintro ⟨q, q2⟩; exact ⟨.inl q, q2⟩
      · rintro ⟨q | rfl, q2⟩
        · exact ⟨q, q2⟩
        · exact absurd q2 h
theorem same_len (l : List Nat) (n : Nat) : (sameN l n).length ≤ l.length := by
  induction l using snoc_ind with
  | h0 => exact Nat.le_refl _
  | h1 l a ih =>
    rw [same_snoc, List.length_append]
    split
    · unfold putN
      split
      · simp; omega
      · have := atN_le (sameN l n) a
        simp only [List.length_append, List.length_take, List.length_drop, List.length_singleton]
        omega
    · simp; omega
/-- The reference's order from 32 down to n. -/
def ordN (l : List Nat) : Nat → List Nat
  | 0 => []
  | k + 1 => ordN l k ++ sameN l (32 - k)
theorem ord_mem (l : List Nat) (x : Nat) : ∀ k, k ≤ 33 → (x ∈ ordN l k ↔ x ∈ l ∧ 33 ≤ cntN 32 x + k)
  | 0, _ => by
    have := cnt_le 32 x
    simp [ordN]; omega
  | k + 1, hk => by
    show x ∈ ordN l k ++ sameN l (32 - k) ↔ _
    rw [List.mem_append, ord_mem l x k (by omega), same_mem]
    constructor
    · rintro (q | q)
      · exact ⟨q.1, by omega⟩
      · exact ⟨q.1, by omega⟩
    · rintro ⟨q, q2⟩
      by_cases h : 33 ≤ cntN 32 x + k
      · exact .inl ⟨q, h⟩
      · exact .inr ⟨q, by omega⟩
theorem ord_sorted (l : List Nat) : ∀ k, k ≤ 33 → (ordN l k).Pairwise ltO
  | 0, _ => List.Pairwise.nil
  | k + 1, hk => by
    show (ordN l k ++ sameN l (32 - k)).Pairwise ltO
    rw [List.pairwise_append]
    refine ⟨ord_sorted l k (by omega), ?_, fun x hx y hy => ?_⟩
    · refine (same_sorted l _).imp_of_mem fun {a b} ha hb h => .inr ⟨?_, h⟩
      rw [((same_mem _ _ _).1 ha).2, ((same_mem _ _ _).1 hb).2]
    · have h1 := (ord_mem l x k (by omega)).1 hx
      have h2 := (same_mem _ _ _).1 hy
      exact .inl (by omega)
theorem ord_len (l : List Nat) : ∀ k, (ordN l k).length ≤ k * l.length
  | 0 => by simp [ordN]
  | k + 1 => by
    have h1 := ord_len l k
    have h2 := same_len l (32 - k)
    show (ordN l k ++ sameN l (32 - k)).length ≤ _
    rw [List.length_append, Nat.succ_mul]
    omega
theorem ord_one {l m : List Nat} (hm : m.Pairwise ltO) (h : ∀ x, x ∈ m ↔ x ∈ l) : m = ordN l 33 :=
  sorted_one ltO_irr ltO_tr hm (ord_sorted l 33 (by decide)) (fun x => by rw [h, ord_mem l x 33 (by decide)]; constructor <;> intro q <;> (first | exact ⟨q, by omega⟩ | exact q.1))
/-- The index of the smallest view that fits, among the first k; -1: there is none. -/
def szN (ns : List Int) (i : Nat) : Int := ns.getD i 0
def SmP (fit : Nat → Bool) (sz : Nat → Int) (p q : Nat) (r : Int) : Prop :=
  (r = -1 ∧ ∀ j, p ≤ j → j < q → fit j = false) ∨ ∃ i : Nat, r = i ∧ p ≤ i ∧ i < q ∧ fit i = true ∧ ∀ j, p ≤ j → j < q → fit j = true → sz i < sz j ∨ (sz i = sz j ∧ i ≤ j)
theorem SmP.one {fit : Nat → Bool} {sz : Nat → Int} {p q : Nat} {r s : Int} (h : SmP fit sz p q r) (k : SmP fit sz p q s) : r = s := by
  rcases h with ⟨rfl, h⟩ | ⟨i, rfl, i0, i1, i2, i3⟩
  · rcases k with ⟨rfl, -⟩ | ⟨j, rfl, j0, j1, j2, -⟩
    · rfl
    · rw [h j j0 j1] at j2; cases j2
  · rcases k with ⟨rfl, k⟩ | ⟨j, rfl, j0, j1, j2, j3⟩
    · rw [k i i0 i1] at i2; cases i2
    · have h1 := i3 j j0 j1 j2
      have h2 := j3 i i0 i1 i2
      omega
theorem SmP.start (fit : Nat → Bool) (sz : Nat → Int) (p : Nat) : SmP fit sz p p (-1) := .inl ⟨rfl, fun j h1 h2 => by omega⟩
theorem SmP.skip {fit : Nat → Bool} {sz : Nat → Int} {q : Nat} {r : Int} (h : SmP fit sz 0 q r) (hf : fit q = false) : SmP fit sz 0 (q + 1) r := by
  rcases h with ⟨rfl, h⟩ | ⟨i, rfl, i0, i1, i2, i3⟩
  · exact .inl ⟨rfl, fun j h1 h2 => if e : j = q then e ▸ hf else h j h1 (by omega)⟩
  · refine .inr ⟨i, rfl, i0, by omega, i2, fun j h1 h2 h3 => ?_⟩
    by_cases e : j = q
    · subst e; rw [hf] at h3; cases h3
    · exact i3 j h1 (by omega) h3
theorem SmP.take {fit : Nat → Bool} {sz : Nat → Int} {q : Nat} {r : Int} (h : SmP fit sz 0 q r) (hf : fit q = true) (hs : ∀ i : Nat, r = i → sz q < sz i) : SmP fit sz 0 (q + 1) q := by
  refine .inr ⟨q, rfl, by omega, by omega, hf, fun j h1 h2 h3 => ?_⟩
  by_cases e : j = q
  · subst e; exact .inr ⟨rfl, Nat.le_refl _⟩
  · rcases h with ⟨rfl, h⟩ | ⟨i, rfl, i0, i1, i2, i3⟩
    · rw [h j h1 (by omega)] at h3; cases h3
    · have h4 := hs i rfl
      have h5 := i3 j h1 (by omega) h3
      omega
theorem SmP.keep {fit : Nat → Bool} {sz : Nat → Int} {q i : Nat} (h : SmP fit sz 0 q i) (hs : ¬ sz q < sz i) : SmP fit sz 0 (q + 1) i := by
  rcases h with ⟨h, -⟩ | ⟨i', e, i0, i1, i2, i3⟩
  · omega
  · have e' : i = i' := by omega
    subst e'
    refine .inr ⟨i, rfl, i0, by omega, i2, fun j h1 h2 h3 => ?_⟩
    by_cases e : j = q
    · subst e; omega
    · exact i3 j h1 (by omega) h3
theorem SmP.rskip {fit : Nat → Bool} {sz : Nat → Int} {p q : Nat} {r : Int} (h : SmP fit sz (p + 1) q r) (hf : fit p = false) : SmP fit sz p q r := by
  rcases h with ⟨rfl, h⟩ | ⟨i, rfl, i0, i1, i2, i3⟩
  · exact .inl ⟨rfl, fun j h1 h2 => if e : j = p then e ▸ hf else h j (by omega) h2⟩
  · refine .inr ⟨i, rfl, by omega, i1, i2, fun j h1 h2 h3 => ?_⟩
    by_cases e : j = p
    · subst e; rw [hf] at h3; cases h3
    · exact i3 j (by omega) h2 h3
theorem SmP.rtake {fit : Nat → Bool} {sz : Nat → Int} {p q : Nat} {r : Int} (h : SmP fit sz (p + 1) q r) (hp : p < q) (hf : fit p = true) (hs : ∀ i : Nat, r = i → sz p ≤ sz i) : SmP fit sz p q p := by
  refine .inr ⟨p, rfl, by omega, by omega, hf, fun j h1 h2 h3 => ?_⟩
  by_cases e : j = p
  · subst e; exact .inr ⟨rfl, Nat.le_refl _⟩
  · rcases h with ⟨rfl, h⟩ | ⟨i, rfl, i0, i1, i2, i3⟩
    · rw [h j (by omega) h2] at h3; cases h3
    · have h4 := hs i rfl
      have h5 := i3 j (by omega) h2 h3
      omega
theorem SmP.rkeep {fit : Nat → Bool} {sz : Nat → Int} {p q i : Nat} (h : SmP fit sz (p + 1) q i) (hs : ¬ sz p ≤ sz i) : SmP fit sz p q i := by
  rcases h with ⟨h, -⟩ | ⟨i', e, i0, i1, i2, i3⟩
  · omega
  · have e' : i = i' := by omega
    subst e'
    refine .inr ⟨i, rfl, by omega, i1, i2, fun j h1 h2 h3 => ?_⟩
    by_cases e : j = p
    · subst e; omega
    · exact i3 j (by omega) h2 h3
theorem SmP.range {fit : Nat → Bool} {sz : Nat → Int} {p q : Nat} {r : Int} (h : SmP fit sz p q r) : -1 ≤ r ∧ (r < 0 → r = -1) ∧ r < (q : Int) := by
  rcases h with ⟨rfl, h⟩ | ⟨i, rfl, i0, i1, i2, i3⟩
  · omega
  · omega
end Go.Proofs.Ytifbmdophoemjaa
