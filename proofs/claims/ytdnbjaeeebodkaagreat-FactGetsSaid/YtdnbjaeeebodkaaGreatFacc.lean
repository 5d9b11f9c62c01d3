/- Layer 12: facts in memory, as they come in. -/
import Derived.Test.YtdnbjaeeebodkaaGreatScia
import Derived.Test.YtdnbjaeeebodkaaGreatSchm
namespace Go.Proofs.YtdnbjaeeebodkaaGreat
set_option maxRecDepth 100000
open Go.RowKit
set_option linter.unusedVariables false
theorem getI_inv {b : List Int} (hb : Bt b) (h : (getI b).2.2 = 0) : b.take (getI b).2.1 = encI (getI b).1 ∧ -9223372036854775808 ≤ (getI b).1 ∧ (getI b).1 ≤ 9223372036854775807 := by
  cases b with
  | nil => simp [getI] at h
  | cons c t =>
    rw [getI_cons] at h ⊢
    split at h
    · simp at h
    · rename_i h1
      split at h
      · simp at h
      · rename_i h2
        rw [if_neg h1, if_neg h2]
        have hc := hb.head
        simp only
        have h8 : sizeI c ≤ 8 := by
          by_cases q : 8 < sizeI c
          · exact absurd (.inl q) h1
          · omega
        have hcn : (c < 9 ∧ c = 8 - (sizeI c : Int)) ∨ (9 ≤ c ∧ c = 9 + (sizeI c : Int)) := by
          unfold sizeI
          by_cases q : c < 9
          · rw [if_pos q]; left; omega
          · rw [if_neg q]; right; omega
        generalize sizeI c = n at *
        have hl : n ≤ t.length := by omega
        have hr := fill_range hb.tail (f := 0) (by decide) (by decide) n
        have hp : ((256 ^ n : Nat) : Int) = 256 ^ n := by rw [Int.natCast_pow]; rfl
        obtain ⟨X, hX⟩ : ∃ X : Nat, fillN t 0 n = X := ⟨(fillN t 0 n).toNat, by omega⟩
        have hXl : X < 256 ^ n := by rw [hX, ← hp] at hr; omega
        have hbf := bigN_fill hb.tail n hl
        have hle : 256 ^ n ≤ 256 ^ 8 := Nat.pow_le_pow_right (by decide) h8
        have h88 : (256 : Nat) ^ 8 = 18446744073709551616 := by decide
        rw [hX] at hbf
        rw [hX, ← hp]
        simp only [Int.toNat_natCast] at hbf
        have htop : n = 0 ∨ ∃ k d u, n = k + 1 ∧ t = d :: u ∧ X = d.toNat * 256 ^ k + (fillN u 0 k).toNat ∧ (fillN u 0 k).toNat < 256 ^ k ∧ 0 ≤ d ∧ d ≤ 255 := by
          by_cases h0 : n = 0
          · exact .inl h0
          · right
            obtain ⟨k, rfl⟩ : ∃ k, n = k + 1 := ⟨n - 1, by omega⟩
            cases t with
            | nil => simp at hl
            | cons d u =>
              have hd := hb.tail.head
              have hr2 := fill_range hb.tail.tail (f := 0) (by decide) (by decide) k
              have hpk : ((256 ^ k : Nat) : Int) = 256 ^ k := by rw [Int.natCast_pow]; rfl
              rw [fill_head] at hX
              simp only [List.tail_cons, List.getD_cons_zero] at hX hr2
              obtain ⟨F, hF⟩ : ∃ F : Nat, fillN u 0 k = F := ⟨(fillN u 0 k).toNat, by omega⟩
              obtain ⟨e, rfl⟩ : ∃ e : Nat, d = e := ⟨d.toNat, by omega⟩
              refine ⟨k, _, _, rfl, rfl, ?_, ?_, hd.1, hd.2⟩
              · rw [hF, ← hpk, ← Int.natCast_mul, ← Int.natCast_add] at hX
                rw [hF]
                simp only [Int.toNat_natCast]
                exact (Int.ofNat.inj hX).symm
              · rw [hF, ← hpk] at hr2
                rw [hF, Int.toNat_natCast]
                omega
        rcases hcn with ⟨hc9, hce⟩ | ⟨hc9, hce⟩
        · rw [if_pos hc9]
          have hx0 : ¬ 0 ≤ (X : Int) - ((256 ^ n : Nat) : Int) := by omega
          have hy : (-1 - ((X : Int) - ((256 ^ n : Nat) : Int))).toNat = 256 ^ n - 1 - X := by omega
          have hlow : IsLen (256 ^ n - 1 - X) n ∧ 256 ^ n - 1 - X < 9223372036854775808 := by
            rcases htop with h0 | ⟨k, d, u, rfl, rfl, e1, e2, d0, d1⟩
            · subst h0; refine ⟨⟨by omega, .inl rfl⟩, by omega⟩
            · have hd : ¬ (d = 255 ∨ (k + 1 = 8 ∧ d < 128)) := by
                intro q
                refine h1 (.inr ⟨by omega, by simp, ?_⟩)
                rw [if_pos hc9]
                simpa using q
              have hpk := p256_pos k
              have hpw : 256 ^ (k + 1) = 256 ^ k * 256 := Nat.pow_succ ..
              have hm : d.toNat * 256 ^ k ≤ 254 * 256 ^ k := Nat.mul_le_mul_right _ (by omega)
              refine ⟨⟨by omega, .inr ?_⟩, ?_⟩
              · simp only [Nat.add_sub_cancel]; omega
              · by_cases k8 : k + 1 = 8
                · obtain rfl : k = 7 := by omega
                  have hm2 : 128 * 256 ^ 7 ≤ d.toNat * 256 ^ 7 := Nat.mul_le_mul_right _ (by omega)
                  omega
                · have : 256 ^ (k + 1) ≤ 256 ^ 7 := Nat.pow_le_pow_right (by decide) (by omega)
                  omega
          refine ⟨?_, by omega, by omega⟩
          unfold encI
          rw [if_neg hx0, hy, (bytesN_is _ (by omega)).unique hlow.1, List.take_succ_cons, ← hbf, ← hce]
          congr 1
          have hdv : ∃ q, 18446744073709551616 = 256 ^ n * q := ⟨256 ^ (8 - n), by rw [← Nat.pow_add, show n + (8 - n) = 8 by omega]⟩
          obtain ⟨q, hq⟩ := hdv
          have hq1 : 1 ≤ q := by
            by_cases q0 : q = 0
            · subst q0; simp at hq
            · omega
          have hmod : (((X : Int) - ((256 ^ n : Nat) : Int)) % 18446744073709551616).toNat = X + 256 ^ n * (q - 1) := by
            have e : 256 ^ n * (q - 1) = 18446744073709551616 - 256 ^ n := by rw [Nat.mul_sub, ← hq, Nat.mul_one]
            rw [e]
            omega
          rw [hmod, ← bigN_mod (X + 256 ^ n * (q - 1)) n n (Nat.le_refl _), Nat.add_mul_mod_self_left, Nat.mod_eq_of_lt hXl]
        · rw [if_neg (by omega)]
          have hlow : IsLen X n ∧ X < 9223372036854775808 := by
            rcases htop with h0 | ⟨k, d, u, rfl, rfl, e1, e2, d0, d1⟩
            · subst h0; refine ⟨⟨hXl, .inl rfl⟩, by omega⟩
            · have hd : ¬ (d = 0 ∨ (k + 1 = 8 ∧ 127 < d)) := by
                intro q
                refine h1 (.inr ⟨by omega, by simp, ?_⟩)
                rw [if_neg (by omega)]
                simpa using q
              have hpk := p256_pos k
              have hm : 1 * 256 ^ k ≤ d.toNat * 256 ^ k := Nat.mul_le_mul_right _ (by omega)
              refine ⟨⟨hXl, .inr ?_⟩, ?_⟩
              · simp only [Nat.add_sub_cancel]; omega
              · by_cases k8 : k + 1 = 8
                · obtain rfl : k = 7 := by omega
                  have hm2 : d.toNat * 256 ^ 7 ≤ 127 * 256 ^ 7 := Nat.mul_le_mul_right _ (by omega)
                  omega
                · have : 256 ^ (k + 1) ≤ 256 ^ 7 := Nat.pow_le_pow_right (by decide) (by omega)
                  omega
          refine ⟨?_, by omega, by omega⟩
          unfold encI
          rw [if_pos (by omega), Int.toNat_natCast, (bytesN_is _ (by omega)).unique hlow.1, List.take_succ_cons, hbf, ← hce]
theorem getF_inv {b : List Int} (hb : Bt b) (h : (getF b).2 = 0) : b.take 8 = encF (getF b).1.toNat ∧ Keyed (getF b).1 := by
  unfold getF at h ⊢
  by_cases h8 : 8 ≤ b.length
  · rw [if_pos h8] at h ⊢
    by_cases hk : Keyed (fillN b 0 8)
    · rw [if_pos hk]
      exact ⟨(bigN_fill hb 8 h8).symm, hk⟩
    · rw [if_neg hk] at h; simp at h
  · rw [if_neg h8] at h
    split at h <;> simp at h
/-- A list read element by element: what is read so far, the position and the error. -/
def listK {α : Type} (rd : Nat → Nat × Nat → α × Nat × Nat) (s : Nat × Nat) : Nat → List α × Nat × Nat
  | 0 => ([], s)
  | k + 1 => ((listK rd s k).1 ++ [(rd k (listK rd s k).2).1], (rd k (listK rd s k).2).2)
theorem listK_st {α : Type} {rd : Nat → Nat × Nat → α × Nat × Nat} {P : Nat × Nat → Prop} (h : ∀ k s, P s → P (rd k s).2) {s : Nat × Nat} (hs : P s) : ∀ k, P (listK rd s k).2 ∧ (listK rd s k).1.length = k
  | 0 => ⟨hs, rfl⟩
  | k + 1 => ⟨h _ _ (listK_st h hs k).1, by simp [listK, (listK_st h hs k).2]⟩
/-- Each element has what the reader gives. -/
theorem listK_all {α : Type} {rd : Nat → Nat × Nat → α × Nat × Nat} {Q : Nat → α → Prop} (h : ∀ k s, Q k (rd k s).1) (s : Nat × Nat) : ∀ k j x, (listK rd s k).1[j]? = some x → Q j x
  | 0, j, x, hx => by simp [listK] at hx
  | k + 1, j, x, hx => by
    have hl := (listK_st (P := fun _ => True) (fun _ _ _ => True.intro) (rd := rd) (s := s) True.intro k).2
    rw [listK] at hx
    simp only at hx
    by_cases hj : j < k
    · rw [List.getElem?_append_left (by omega)] at hx
      exact listK_all h s k j x hx
    · rw [List.getElem?_append_right (by omega), hl] at hx
      by_cases hjk : j = k
      · subst hjk
        simp only [Nat.sub_self, List.getElem?_cons_zero, Option.some.injEq] at hx
        exact hx ▸ h _ _
      · obtain ⟨m, hm⟩ : ∃ m, j - k = m + 1 := ⟨j - k - 1, by omega⟩
        rw [hm] at hx
        simp at hx
/-- What is read without an error was there. -/
def InvR {α : Type} (b : List Int) (rd : Nat × Nat → α × Nat × Nat) (enc : α → List Int) : Prop := ∀ s, (rd s).2.2 = 0 → s.2 = 0 ∧ ∀ X, b.take s.1 = X → b.take (rd s).2.1 = X ++ enc (rd s).1
theorem listK_inv {α : Type} {b : List Int} {rd : Nat → Nat × Nat → α × Nat × Nat} {enc : α → List Int} (h : ∀ k, InvR b (rd k) enc) : ∀ k, InvR b (fun s => listK rd s k) (fun l => l.flatMap enc)
  | 0 => fun s h0 => ⟨h0, fun X hX => by simp [listK, hX]⟩
  | k + 1 => fun s h0 => by
    have h1 := h k (listK rd s k).2 h0
    have h2 := listK_inv h k s h1.1
    refine ⟨h2.1, fun X hX => ?_⟩
    have h3 := h1.2 _ (h2.2 X hX)
    show b.take (rd k (listK rd s k).2).2.1 = X ++ ((listK rd s k).1 ++ [(rd k (listK rd s k).2).1]).flatMap enc
    rw [h3, List.flatMap_append]
    simp [List.append_assoc]
/-- What is there is read, as y. -/
def FwdR {α β : Type} (b : List Int) (rd : Nat × Nat → β × Nat × Nat) (enc : α → List Int) (x : α) (y : β) : Prop := ∀ p rest, b.drop p = enc x ++ rest → rd (p, 0) = (y, p + (enc x).length, 0)
theorem listK_fwd {α β : Type} {b : List Int} {rd : Nat → Nat × Nat → β × Nat × Nat} {enc : α → List Int} {g : α → β} {l : List α} (h : ∀ k x, l[k]? = some x → FwdR b (rd k) enc x (g x)) {p : Nat} {rest : List Int} (hd : b.drop p = l.flatMap enc ++ rest) : ∀ k, k ≤ l.length → listK rd (p, 0) k = ((l.take k).map g, p + ((l.take k).flatMap enc).length, 0)
  | 0, _ => by simp [listK]
  | k + 1, hk => by
    have ih := listK_fwd h hd k (by omega)
    have hg : l.drop k = l[k] :: l.drop (k + 1) := List.drop_eq_getElem_cons (by omega)
    have h1 : b.drop (p + ((l.take k).flatMap enc).length) = enc l[k] ++ ((l.drop (k + 1)).flatMap enc ++ rest) := by
      refine drop_more (X := (l.take k).flatMap enc) ?_
      rw [hd]
      conv => lhs; rw [← List.take_append_drop k l, List.flatMap_append, hg, List.flatMap_cons]
      simp only [List.append_assoc]
    have t1 := h k l[k] (List.getElem?_eq_getElem (by omega)) _ _ h1
    have et : l.take (k + 1) = l.take k ++ [l[k]] := by rw [List.take_add_one, List.getElem?_eq_getElem (by omega)]; rfl
    rw [listK, ih]
    simp only
    rw [t1, et, List.flatMap_append, List.map_append]
    simp [Nat.add_assoc]
theorem listK_whole {α β : Type} {b : List Int} {rd : Nat → Nat × Nat → β × Nat × Nat} {enc : α → List Int} {g : α → β} {l : List α} (h : ∀ k x, l[k]? = some x → FwdR b (rd k) enc x (g x)) : FwdR b (fun s => listK rd s l.length) (fun l => l.flatMap enc) l (l.map g) := fun p rest hd => by
  have := listK_fwd h hd l.length (Nat.le_refl _)
  rw [List.take_length] at this
  exact this
/-- A whole number, a real number (its float). -/
def stI (b : List Int) (s : Nat × Nat) : Int × Nat × Nat :=
  if s.2 = 0 then ((getI (b.drop s.1)).1, if (getI (b.drop s.1)).2.2 = 0 then s.1 + (getI (b.drop s.1)).2.1 else s.1, (getI (b.drop s.1)).2.2) else (0, s)
def stF (b : List Int) (s : Nat × Nat) : Nat × Nat × Nat :=
  if s.2 = 0 then (if (getF (b.drop s.1)).2 = 0 then fromN (getF (b.drop s.1)).1 else 0, if (getF (b.drop s.1)).2 = 0 then s.1 + 8 else s.1, (getF (b.drop s.1)).2) else (0, s)
theorem stI_st {b : List Int} {s : Nat × Nat} (h : OkSt b s) : OkSt b (stI b s).2 := by
  unfold stI
  split
  · have := getI_fit (b := b.drop s.1)
    refine ⟨?_, this.2⟩
    simp only
    split
    · rename_i h0
      have h1 := this.1 h0
      have h2 := h.1
      rw [List.length_drop] at h1
      omega
    · exact h.1
  · exact h
theorem stF_st {b : List Int} {s : Nat × Nat} (h : OkSt b s) : OkSt b (stF b s).2 := by
  unfold stF
  split
  · have := getF_fit (b := b.drop s.1)
    refine ⟨?_, this.2⟩
    simp only
    split
    · rename_i h0
      have h1 := this.1 h0
      have h2 := h.1
      rw [List.length_drop] at h1
      omega
    · exact h.1
  · exact h
theorem stI_val {b : List Int} (hb : Bt b) (s : Nat × Nat) : -9223372036854775808 ≤ (stI b s).1 ∧ (stI b s).1 ≤ 9223372036854775807 := by
  unfold stI
  split
  · simp only
    by_cases h0 : (getI (b.drop s.1)).2.2 = 0
    · exact (getI_inv (hb.drop _) h0).2
    · rw [(getI_zero h0).1]; omega
  · simp only; omega
theorem stI_inv {b : List Int} (hb : Bt b) : InvR b (stI b) encI := fun s h => by
  unfold stI at h ⊢
  split at h
  · rename_i h0
    rw [if_pos h0]
    refine ⟨h0, fun X hX => ?_⟩
    simp only at h ⊢
    rw [if_pos h]
    exact take_more hX (getI_inv (hb.drop _) h).1
  · rename_i h0; exact absurd h h0
theorem stI_fwd {b : List Int} {x : Int} (h0 : -9223372036854775808 ≤ x) (h1 : x ≤ 9223372036854775807) : FwdR b (stI b) encI x x := fun p rest hd => by
  unfold stI
  rw [if_pos rfl]
  simp only
  rw [hd, getI_enc h0 h1]
  simp
/-- The bytes of a float. -/
def eN (x : Nat) : List Int := encF (keyI x).toNat
theorem stF_inv {b : List Int} (hb : Bt b) : InvR b (stF b) eN := fun s h => by
  unfold stF at h ⊢
  split at h
  · rename_i h0
    rw [if_pos h0]
    refine ⟨h0, fun X hX => ?_⟩
    simp only at h ⊢
    rw [if_pos h, if_pos h]
    obtain ⟨h1, h2⟩ := getF_inv (hb.drop s.1) h
    unfold eN
    rw [(keyed_from h2).2.1]
    exact take_more hX h1
  · rename_i h0; exact absurd h h0
theorem stF_fwd {b : List Int} {x : Nat} (h : Keyed (keyI x)) : FwdR b (stF b) eN x (fromN (keyI x)) := fun p rest hd => by
  have hk := keyed_from h
  have e : ((keyI x).toNat : Int) = keyI x := by omega
  unfold stF
  rw [if_pos rfl]
  simp only
  unfold eN at hd
  rw [hd, getF_enc (by omega) (by rw [e]; exact h), e]
  simp [eN, encF, bigN_len]
set_option maxRecDepth 100000
open Go.RowKit
set_option linter.unusedVariables false
/-- A fact: codes, whole numbers, floats (their words). -/
structure Fa where
  cs : List Int
  is : List Int
  ns : List Nat
def eU (v : Int) : List Int := encU v.toNat
def encFa (f : Fa) : List Int := f.cs.flatMap eU ++ f.is.flatMap encI ++ f.ns.flatMap eN
/-- A batch's bytes. -/
def encFs (l : List Fa) : List Int := encU l.length ++ l.flatMap encFa
/-- The fact that is read where a fact was put: one NaN for all. -/
def normF (f : Fa) : Fa := ⟨f.cs, f.is, f.ns.map fun x => fromN (keyI x)⟩
/-- One fact is read: codes up to ms, so many whole numbers, so many real numbers. -/
def rdC (b ms : List Int) (s : Nat × Nat) : List Int × Nat × Nat := listK (fun k s => stU b (ms.getD k 0) s) s ms.length
def rdI2 (b : List Int) (n : Nat) (s : Nat × Nat) : List Int × Nat × Nat := listK (fun _ s => stI b s) s n
def rdN2 (b : List Int) (n : Nat) (s : Nat × Nat) : List Nat × Nat × Nat := listK (fun _ s => stF b s) s n
def rdFa (b ms : List Int) (ni nn : Nat) (s : Nat × Nat) : Fa × Nat × Nat :=
  (⟨(rdC b ms s).1, (rdI2 b ni (rdC b ms s).2).1, (rdN2 b nn (rdI2 b ni (rdC b ms s).2).2).1⟩, (rdN2 b nn (rdI2 b ni (rdC b ms s).2).2).2)
theorem rdC_st {b : List Int} (hb : Bt b) (ms : List Int) {s : Nat × Nat} (h : OkSt b s) : OkSt b (rdC b ms s).2 ∧ (rdC b ms s).1.length = ms.length :=
  listK_st (P := OkSt b) (fun _ _ h => stU_st hb _ h) h _
theorem rdI2_st {b : List Int} (n : Nat) {s : Nat × Nat} (h : OkSt b s) : OkSt b (rdI2 b n s).2 ∧ (rdI2 b n s).1.length = n :=
  listK_st (P := OkSt b) (fun _ _ h => stI_st h) h _
theorem rdN2_st {b : List Int} (n : Nat) {s : Nat × Nat} (h : OkSt b s) : OkSt b (rdN2 b n s).2 ∧ (rdN2 b n s).1.length = n :=
  listK_st (P := OkSt b) (fun _ _ h => stF_st h) h _
theorem rdFa_st {b : List Int} (hb : Bt b) (ms : List Int) (ni nn : Nat) {s : Nat × Nat} (h : OkSt b s) : OkSt b (rdFa b ms ni nn s).2 :=
  (rdN2_st nn (rdI2_st ni (rdC_st hb ms h).1).1).1
theorem rdFa_inv {b : List Int} (hb : Bt b) (ms : List Int) (ni nn : Nat) : InvR b (rdFa b ms ni nn) encFa := fun s h => by
  have h1 := listK_inv (b := b) (rd := fun _ s => stF b s) (enc := eN) (fun _ => stF_inv hb) nn _ h
  have h2 := listK_inv (b := b) (rd := fun _ s => stI b s) (enc := encI) (fun _ => stI_inv hb) ni _ h1.1
  have h3 := listK_inv (b := b) (rd := fun k s => stU b (ms.getD k 0) s) (enc := eU) (fun k s h => stU_inv hb h) ms.length _ h2.1
  refine ⟨h3.1, fun X hX => ?_⟩
  have h4 := h1.2 _ (h2.2 _ (h3.2 X hX))
  unfold encFa
  rw [← List.append_assoc, ← List.append_assoc]
  exact h4
/-- A fact of a schema's shape: the greatest codes, how many whole and real numbers. -/
structure FitFa (ms : List Int) (ni nn : Nat) (f : Fa) : Prop where
  lc : f.cs.length = ms.length
  li : f.is.length = ni
  ln : f.ns.length = nn
  c : ∀ k x, f.cs[k]? = some x → 0 ≤ x ∧ x ≤ ms.getD k 0 ∧ x ≤ 4096
  i : ∀ x ∈ f.is, -9223372036854775808 ≤ x ∧ x ≤ 9223372036854775807
  n : ∀ x ∈ f.ns, Keyed (keyI x)
theorem rdFa_fwd {b ms : List Int} {ni nn : Nat} {f : Fa} (hf : FitFa ms ni nn f) : FwdR b (rdFa b ms ni nn) encFa f (normF f) := fun p rest hd => by
  unfold encFa at hd ⊢
  rw [List.append_assoc, List.append_assoc] at hd
  have e1 := listK_whole (b := b) (rd := fun k s => stU b (ms.getD k 0) s) (enc := eU) (g := fun x => x) (l := f.cs) (fun k x hk p rest hd => by
    have hx := hf.c k x hk
    have ez : ((x.toNat : Nat) : Int) = x := by omega
    have := stU_fwd (most := ms.getD k 0) hd (by omega) (by omega)
    rw [ez] at this
    exact this) p _ hd
  have hd2 := drop_more (X := f.cs.flatMap eU) hd
  have e2 := listK_whole (b := b) (rd := fun _ s => stI b s) (enc := encI) (g := fun x => x) (l := f.is) (fun k x hk => by
    have hx := hf.i x (List.mem_of_getElem? hk)
    exact stI_fwd hx.1 hx.2) _ _ hd2
  have hd3 := drop_more (X := f.is.flatMap encI) hd2
  have e3 := listK_whole (b := b) (rd := fun _ s => stF b s) (enc := eN) (g := fun x => fromN (keyI x)) (l := f.ns) (fun k x hk => stF_fwd (hf.n x (List.mem_of_getElem? hk))) _ _ hd3
  simp only [List.map_id'] at e1 e2
  have c1 : rdC b ms (p, 0) = (f.cs, p + (f.cs.flatMap eU).length, 0) := by unfold rdC; rw [← hf.lc]; exact e1
  have c2 : rdI2 b ni (p + (f.cs.flatMap eU).length, 0) = (f.is, p + (f.cs.flatMap eU).length + (f.is.flatMap encI).length, 0) := by unfold rdI2; rw [← hf.li]; exact e2
  have c3 : rdN2 b nn (p + (f.cs.flatMap eU).length + (f.is.flatMap encI).length, 0) = (f.ns.map fun x => fromN (keyI x), p + (f.cs.flatMap eU).length + (f.is.flatMap encI).length + (f.ns.flatMap eN).length, 0) := by unfold rdN2; rw [← hf.ln]; exact e3
  unfold rdFa normF
  rw [c1]
  simp only
  rw [c2]
  simp only
  rw [c3]
  simp only [List.length_append, Nat.add_assoc]
/-- A batch is read. -/
def numB (b : List Int) : Int × Nat × Nat := stU b 200 (0, 0)
def rdB (b ms : List Int) (ni nn : Nat) : List Fa × Nat × Nat := listK (fun _ s => rdFa b ms ni nn s) (numB b).2 (numB b).1.toNat
def getBE (b ms : List Int) (ni nn : Nat) : Nat := if (numB b).2.2 ≠ 0 then (numB b).2.2 else if (numB b).1 = 0 then 3 else endE b (rdB b ms ni nn).2
theorem rdB_st {b : List Int} (hb : Bt b) (ms : List Int) (ni nn : Nat) : OkSt b (rdB b ms ni nn).2 ∧ (rdB b ms ni nn).1.length = (numB b).1.toNat :=
  listK_st (P := OkSt b) (fun _ _ h => rdFa_st hb ms ni nn h) (stU_st hb _ ⟨Nat.zero_le _, by decide⟩) _
theorem numB_val {b : List Int} (hb : Bt b) : 0 ≤ (numB b).1 ∧ (numB b).1 ≤ 200 := stU_val hb (by decide) _
/-- What is read without an error has these bytes. -/
theorem rdB_enc {b : List Int} (hb : Bt b) {ms : List Int} {ni nn : Nat} (h : getBE b ms ni nn = 0) : encFs (rdB b ms ni nn).1 = b ∧ 1 ≤ (rdB b ms ni nn).1.length ∧ (rdB b ms ni nn).1.length ≤ 200 := by
  have hv := numB_val hb
  have hl := rdB_st hb ms ni nn
  unfold getBE at h
  split at h
  · rename_i h0; exact absurd h h0
  · split at h
    · simp at h
    · rename_i h0 h1
      have he : (rdB b ms ni nn).2.2 = 0 ∧ b.length ≤ (rdB b ms ni nn).2.1 := by
        unfold endE at h
        split at h
        · simp at h
        · rename_i q
          exact ⟨h, by by_cases q2 : (rdB b ms ni nn).2.1 < b.length; exact absurd ⟨h, q2⟩ q; omega⟩
      have i1 := listK_inv (b := b) (rd := fun _ s => rdFa b ms ni nn s) (enc := encFa) (fun _ => rdFa_inv hb ms ni nn) _ _ he.1
      have i2 := stU_inv hb (most := 200) (s := (0, 0)) i1.1
      have i3 := i1.2 _ (i2.2 [] rfl)
      have e : b.take (rdB b ms ni nn).2.1 = b := List.take_of_length_le he.2
      refine ⟨?_, by omega, by omega⟩
      unfold encFs
      rw [hl.2]
      rw [show b.take (rdB b ms ni nn).2.1 = [] ++ encU (numB b).1.toNat ++ (rdB b ms ni nn).1.flatMap encFa from i3] at e
      rw [List.nil_append] at e
      exact e
/-- What is put is read. -/
theorem rdB_fwd {ms : List Int} {ni nn : Nat} {l : List Fa} (hl : 1 ≤ l.length) (hl2 : l.length ≤ 200) (hf : ∀ f ∈ l, FitFa ms ni nn f) : getBE (encFs l) ms ni nn = 0 ∧ (rdB (encFs l) ms ni nn).1 = l.map normF := by
  obtain ⟨b, hb⟩ : ∃ b, encFs l = b := ⟨_, rfl⟩
  have h0 : b.drop 0 = encU l.length ++ (l.flatMap encFa ++ []) := by rw [← hb, List.append_nil]; rfl
  rw [hb]
  have t1 := stU_fwd (most := 200) h0 (by omega) (by omega)
  have hn : numB b = ((l.length : Int), (encU l.length).length, 0) := by unfold numB; rw [t1, Nat.zero_add]
  have h1 : b.drop (encU l.length).length = l.flatMap encFa ++ [] := by have := drop_more (X := encU l.length) h0; rwa [Nat.zero_add] at this
  have e1 := listK_whole (b := b) (rd := fun _ s => rdFa b ms ni nn s) (enc := encFa) (g := normF) (l := l) (fun k x hk => rdFa_fwd (hf x (List.mem_of_getElem? hk))) _ _ h1
  have hr : rdB b ms ni nn = (l.map normF, (encU l.length).length + (l.flatMap encFa).length, 0) := by
    unfold rdB; rw [hn]; simp only [Int.toNat_natCast]; exact e1
  have hlen : b.length = (encU l.length).length + (l.flatMap encFa).length := by rw [← hb]; simp [encFs]
  refine ⟨?_, by rw [hr]⟩
  unfold getBE endE
  rw [hr, hn]
  simp only
  rw [if_neg (by simp), if_neg (by omega), if_neg (by rw [hlen]; simp)]
set_option maxRecDepth 100000
open Go.RowKit
set_option linter.unusedVariables false
/-- The k-th code is one of its dimension. -/
def codAt (ds : List (ByteArray × Int)) (cs : List Int) (k : Nat) : Bool := decide (0 ≤ cs.getD k 0) && decide (cs.getD k 0 < dz ds k)
def codB (ds : List (ByteArray × Int)) (cs : List Int) : Bool := (List.range cs.length).all (codAt ds cs)
theorem cod_bad {ds : List (ByteArray × Int)} {cs : List Int} {k : Nat} (hk : k < cs.length) (h : codAt ds cs k = false) : codB ds cs = false := List.all_eq_false.2 ⟨k, by simpa using hk, by simp [h]⟩
theorem cod_good {ds : List (ByteArray × Int)} {cs : List Int} (h : ∀ j, j < cs.length → codAt ds cs j = true) : codB ds cs = true := List.all_eq_true.2 fun x hx => h x (by simpa using hx)
theorem cod_get {ds : List (ByteArray × Int)} {cs : List Int} (h : codB ds cs = true) {k : Nat} (hk : k < cs.length) : 0 ≤ cs.getD k 0 ∧ cs.getD k 0 < dz ds k := by
  have := List.all_eq_true.1 h k (by simpa using hk)
  simpa [codAt] using this
/-- The error of a fact, of a schema that is right. -/
def fitsL (S : Sc) (f : Fa) : Nat := if f.cs.length ≠ S.ds.length ∨ f.is.length ≠ S.is.length ∨ f.ns.length ≠ S.ns.length then 3 else if codB S.ds f.cs = true then 0 else 2
theorem fits_ok {S : Sc} {f : Fa} (h : fitsL S f = 0) : f.cs.length = S.ds.length ∧ f.is.length = S.is.length ∧ f.ns.length = S.ns.length ∧ codB S.ds f.cs = true := by
  unfold fitsL at h
  split at h
  · simp at h
  · rename_i q
    split at h
    · rename_i q2
      refine ⟨?_, ?_, ?_, q2⟩ <;> omega
    · simp at h
/-- The first of a list that does not fit, and its error. -/
def goL (S : Sc) : List Fa → Nat → Nat × Nat
  | [], _ => (0, 0)
  | f :: t, k => if fitsL S f ≠ 0 then (k, fitsL S f) else goL S t (k + 1)
theorem goL_skip {S : Sc} {l : List Fa} : ∀ k, k ≤ l.length → (∀ j (h : j < l.length), j < k → fitsL S l[j] = 0) → goL S l 0 = goL S (l.drop k) k
  | 0, _, _ => by simp
  | k + 1, hk, h => by
    rw [goL_skip k (by omega) (fun j hj hlt => h j hj (by omega)), List.drop_eq_getElem_cons (show k < l.length by omega), goL, if_neg (by simpa using h k (by omega) (by omega))]
theorem goL_bad {S : Sc} {l : List Fa} {k : Nat} (hk : k < l.length) (h : ∀ j (h : j < l.length), j < k → fitsL S l[j] = 0) (hb : fitsL S l[k] ≠ 0) : goL S l 0 = (k, fitsL S l[k]) := by
  rw [goL_skip k (by omega) h, List.drop_eq_getElem_cons hk, goL, if_pos hb]
theorem goL_good {S : Sc} {l : List Fa} (h : ∀ j (h : j < l.length), fitsL S l[j] = 0) : goL S l 0 = (0, 0) := by
  rw [goL_skip l.length (Nat.le_refl _) (fun j hj _ => h j hj), List.drop_length, goL]
theorem goL_all {S : Sc} : ∀ {l : List Fa} {k : Nat}, (goL S l k).2 = 0 → ∀ f ∈ l, fitsL S f = 0
  | [], _, _, _, h => by cases h
  | f :: t, k, h, g, hg => by
    rw [goL] at h
    split at h
    · rename_i q; exact absurd h q
    · rename_i q
      rcases List.mem_cons.1 hg with rfl | hg
      · omega
      · exact goL_all h g hg
/-- The place and the error of a batch. -/
def batchL (S : Sc) (l : List Fa) : Nat × Nat := if checkL S ≠ 0 then (0, 1) else if l.length < 1 ∨ 200 < l.length then (0, 3) else goL S l 0
theorem batch_ok {S : Sc} {l : List Fa} (h : (batchL S l).2 = 0) : checkL S = 0 ∧ 1 ≤ l.length ∧ l.length ≤ 200 ∧ ∀ f ∈ l, fitsL S f = 0 := by
  unfold batchL at h
  split at h
  · simp at h
  · rename_i q
    split at h
    · simp at h
    · rename_i q2
      refine ⟨?_, ?_, ?_, goL_all h⟩ <;> omega
/-- The greatest codes. -/
def mostsS (S : Sc) : List Int := S.ds.map fun d => d.2 - 1
theorem mosts_get {S : Sc} {k : Nat} (hk : k < S.ds.length) : (mostsS S).getD k 0 = dz S.ds k - 1 := by
  rw [dz_get hk]
  simp [mostsS, List.getD, hk]
theorem mosts_len (S : Sc) : (mostsS S).length = S.ds.length := by simp [mostsS]
theorem check_siz {S : Sc} (h : checkL S = 0) {k : Nat} (hk : k < S.ds.length) : 1 ≤ dz S.ds k ∧ dz S.ds k ≤ 4096 := by
  have := siz_get (check_cnt' h).2 hk
  exact ⟨this.1, this.2.1⟩
theorem fit_of_fits {S : Sc} {f : Fa} (hc : checkL S = 0) (hi : ∀ x ∈ f.is, -9223372036854775808 ≤ x ∧ x ≤ 9223372036854775807) (hn : ∀ x ∈ f.ns, W64 x) (h : fitsL S f = 0) : FitFa (mostsS S) S.is.length S.ns.length f := by
  obtain ⟨h1, h2, h3, h4⟩ := fits_ok h
  refine ⟨by rw [mosts_len]; exact h1, h2, h3, fun k x hx => ?_, hi, fun x hx => keyed_key (hn x hx)⟩
  have hk := (List.getElem?_eq_some_iff.1 hx).1
  have hg := cod_get h4 hk
  have e : f.cs.getD k 0 = x := by simp [List.getD, hx]
  rw [e] at hg
  have hs := check_siz hc (k := k) (by omega)
  rw [mosts_get (by omega)]
  omega
/-- What decides whether facts are the same: codes, whole numbers, the keys of the real numbers. -/
def keyF (f : Fa) : List Int × List Int × List Int := (f.cs, f.is, f.ns.map keyI)
def sameFa (f g : Fa) : Bool := decide (keyF f = keyF g)
def sameFs (l m : List Fa) : Bool := decide (l.map keyF = m.map keyF)
theorem key_norm {f : Fa} (hn : ∀ x ∈ f.ns, W64 x) : keyF (normF f) = keyF f := by
  unfold keyF normF
  simp only [List.map_map, Prod.mk.injEq, true_and]
  exact List.map_congr_left fun x hx => (keyed_from (keyed_key (hn x hx))).2.1
theorem same_norm {l : List Fa} (hn : ∀ f ∈ l, ∀ x ∈ f.ns, W64 x) : sameFs l (l.map normF) = true := by
  unfold sameFs
  rw [decide_eq_true_iff, List.map_map]
  exact List.map_congr_left fun f hf => (key_norm (hn f hf)).symm
theorem sameFs_refl (l : List Fa) : sameFs l l = true := by simp [sameFs]
/-- Lists of the same keys have the same bytes. -/
theorem enc_key {f g : Fa} (h : keyF f = keyF g) : encFa f = encFa g := by
  unfold keyF at h
  simp only [Prod.mk.injEq] at h
  obtain ⟨h1, h2, h3⟩ := h
  have e : ∀ l : List Nat, l.flatMap eN = (l.map keyI).flatMap fun k => encF k.toNat := fun l => by rw [List.flatMap_map]; rfl
  unfold encFa
  rw [h1, h2, e, e, h3]
set_option maxRecDepth 100000
open Go.RowKit Go.ChangeShapes Go.WideShapes Go.Deep
set_option linter.unusedVariables false
/-- A slice value reads as a list of floats. -/
def Fls (w : World) (v : Value) (xs : List Nat) : Prop :=
  ∃ a cap, v = .slice a xs.length cap ∧ xs.length ≤ cap ∧ (xs = [] ∨ ∃ b off, a = some ⟨b, off, none⟩ ∧ b < w.heap.size ∧ ∀ i, i < xs.length → w.cell? ⟨b, off + i, none⟩ = some (.float .f64 (xs.getD i 0)))
theorem Fls.below {w w' : World} {v : Value} {xs : List Nat} (h : Fls w v xs) (hb : Below w.heap.size w w') : Fls w' v xs := by
  obtain ⟨a, cap, rfl, h1, h3⟩ := h
  refine ⟨a, cap, rfl, h1, ?_⟩
  rcases h3 with h3 | ⟨b, off, rfl, hlt, hc⟩
  · exact .inl h3
  · exact .inr ⟨b, off, rfl, Nat.lt_of_lt_of_le hlt hb.size, fun i hi => (hb.cell (p := ⟨b, _, none⟩) hlt).trans (hc i hi)⟩
/-- The three slices of a fact. -/
structure Fact3 (w : World) (C I N : Value) (f : Fa) : Prop where
  c : Ints .i64 w C f.cs
  i : Ints .i64 w I f.is
  n : Fls w N f.ns
theorem Fact3.below {w w' : World} {C I N : Value} {f : Fa} (h : Fact3 w C I N f) (hb : Below w.heap.size w w') : Fact3 w' C I N f := ⟨h.c.below hb, h.i.below hb, h.n.below hb⟩
theorem Fact3.slices {w : World} {C I N : Value} {f : Fa} (h : Fact3 w C I N f) : (∃ a c, C = .slice a f.cs.length c) ∧ (∃ a c, I = .slice a f.is.length c) ∧ ∃ a c, N = .slice a f.ns.length c := by
  obtain ⟨⟨a, c, h1, -⟩, ⟨a2, c2, h2, -⟩, a3, c3, h3, -⟩ := h
  exact ⟨⟨a, c, h1⟩, ⟨a2, c2, h2⟩, a3, c3, h3⟩
/-- The numbers of a fact fit. -/
structure FaWf (f : Fa) : Prop where
  c : ∀ x ∈ f.cs, -9223372036854775808 ≤ x ∧ x ≤ 9223372036854775807
  i : ∀ x ∈ f.is, -9223372036854775808 ≤ x ∧ x ≤ 9223372036854775807
  n : ∀ x ∈ f.ns, W64 x
  l : f.cs.length ≤ 9223372036854775807 ∧ f.is.length ≤ 9223372036854775807 ∧ f.ns.length ≤ 9223372036854775807
abbrev FactV (C I N : Value) : Value := .agg #[C, I, N]
/-- A slice of facts: three cells each. -/
def Facts (w : World) (v : Value) (l : List Fa) : Prop :=
  ∃ a cap, v = .slice a l.length cap ∧ l.length ≤ cap ∧ l.length ≤ 9223372036854775807 ∧ (l = [] ∨ ∃ b off, a = some ⟨b, off, none⟩ ∧ b < w.heap.size ∧
    ∀ i (h : i < l.length), ∃ C I N, (w.cell? ⟨b, off + i * 3, none⟩ = some C ∧ w.cell? ⟨b, off + i * 3 + 1, none⟩ = some I ∧ w.cell? ⟨b, off + i * 3 + 2, none⟩ = some N) ∧ Fact3 w C I N l[i])
theorem Facts.below {w w' : World} {v : Value} {l : List Fa} (h : Facts w v l) (hb : Below w.heap.size w w') : Facts w' v l := by
  obtain ⟨a, cap, rfl, h1, h2, h3⟩ := h
  refine ⟨a, cap, rfl, h1, h2, ?_⟩
  rcases h3 with h3 | ⟨b, off, rfl, hlt, hc⟩
  · exact .inl h3
  · refine .inr ⟨b, off, rfl, Nat.lt_of_lt_of_le hlt hb.size, fun i hi => ?_⟩
    obtain ⟨C, I, N, ⟨q0, q1, q2⟩, q3⟩ := hc i hi
    exact ⟨C, I, N, ⟨(hb.cell (p := ⟨b, _, none⟩) hlt).trans q0, (hb.cell (p := ⟨b, _, none⟩) hlt).trans q1, (hb.cell (p := ⟨b, _, none⟩) hlt).trans q2⟩, q3.below hb⟩
theorem longs_of {H : Type} {enc : TypeId × Value → H} {w : World} {base : Nat} {spare : Nat → Bool} {held : Bool} {fuel : Nat} {v : Value} {x : DataW H × List MemPlace} {T E : TypeId} (hT : Tryz.prog.underlying T = some (.slice E)) (hE : Tryz.prog.underlying E = some (.int .i64)) (h1 : Tryz.prog.cellsOf E = 1)
    (h : DataW.trod enc Tryz.prog w base spare held fuel T [v] = some x) :
    ∃ vs, Ints .i64 w v vs ∧ (∀ d ∈ vs, -9223372036854775808 ≤ d ∧ d ≤ 9223372036854775807) ∧ vs.length ≤ 9223372036854775807 := by
  rcases open_ints hT hE h1 h with ⟨hcs, _⟩ | ⟨x, l, c, zs, hcs, _, hl, hm, hz, _, hcell, hwz⟩
  · obtain rfl : v = .slice none 0 0 := by simpa using hcs
    exact ⟨[], ⟨none, 0, rfl, by simp, .inl rfl⟩, (fun _ h => by cases h), by simp⟩
  · obtain rfl : v = .slice (some x) l c := by simpa using hcs
    have hlz : l ≤ zs.length := by rw [hz]; split <;> omega
    have ht : (zs.take l).length = l := by rw [List.length_take]; omega
    refine ⟨zs.take l, ⟨some x, c, by rw [ht], by omega, ?_⟩, fun n hn => ?_, by rw [ht]; unfold maxLen at hm; omega⟩
    · by_cases h0 : l = 0
      · subst h0; exact .inl (by simp)
      · refine .inr ?_
        obtain ⟨b, off, spot⟩ := x
        have hc := hcell 0 (by omega)
        have hspot : spot = none := by simpa [Addr.add] using World.cell?_spot hc
        subst hspot
        refine ⟨b, off, rfl, World.block_lt_of_cell? w _ hc, fun i hi => ?_⟩
        rw [ht] at hi
        have e : (zs.take l).getD i 0 = zs.getD i 0 := by simp [List.getD, hi]
        rw [e]
        have hh := hcell i (by omega)
        by_cases h0 : i = 0
        · subst h0; simpa [Addr.add] using hh
        · simpa [Addr.add, h0] using hh
    · have := hwz n (List.mem_of_mem_take hn)
      simp [Lit.wf, IntKind.min, IntKind.max, IntKind.signed, IntKind.bits] at this
      omega
theorem trod_f64 {H : Type} {enc : TypeId × Value → H} {P : Program} {w : World} {base : Nat} {spare : Nat → Bool} {held : Bool} {fuel : Nat} {t : TypeId} {cs : List Value} {x : DataW H × List MemPlace} {k : FloatKind} (ht : P.underlying t = some (.float k)) (h : DataW.trod enc P w base spare held fuel t cs = some x) : ∃ n, cs = [.float k n] ∧ (Lit.float k n).wf = true := by
  cases fuel with
  | zero => simp [DataW.trod] at h
  | succ n =>
    unfold DataW.trod at h
    rw [ht] at h
    split at h <;> simp_all
theorem fls_of {H : Type} {enc : TypeId × Value → H} {w : World} {base : Nat} {spare : Nat → Bool} {held : Bool} {fuel : Nat} {v : Value} {x : DataW H × List MemPlace} {T E : TypeId} (hT : Tryz.prog.underlying T = some (.slice E)) (hE : Tryz.prog.underlying E = some (.float .f64)) (hc1 : Tryz.prog.cellsOf E = 1)
    (h : DataW.trod enc Tryz.prog w base spare held fuel T [v] = some x) : ∃ xs, Fls w v xs ∧ (∀ x ∈ xs, W64 x) ∧ xs.length ≤ 9223372036854775807 := by
  rcases DataW.trod_slice hT h with ⟨hv, -⟩ | ⟨a, len, cap, elems, rest, n, _, hv, -, hb, hl, hm, hlen, hel, -, -⟩
  · obtain rfl : v = .slice none 0 0 := by simpa using hv
    exact ⟨[], ⟨none, 0, rfl, by simp, .inl rfl⟩, (fun _ h => by cases h), by simp⟩
  obtain rfl : v = .slice (some a) len cap := by simpa using hv
  have each : ∀ i, ∃ m, i < len → w.cell? (a.add i) = some (.float .f64 m) ∧ W64 m := by
    intro i
    by_cases hi : i < len
    · have h1 := hel i hi
      rw [List.getElem?_eq_getElem (by omega), hc1, Nat.mul_one, Option.bind_eq_some_iff] at h1
      obtain ⟨cs', hcs, hy'⟩ := h1
      obtain ⟨m, rfl, hw⟩ := trod_f64 hE hy'
      exact ⟨m, fun _ => ⟨cell_of_cells?_one hcs, by simpa [Lit.wf, W64] using hw⟩⟩
    · exact ⟨0, fun h => absurd h hi⟩
  obtain ⟨q, hq⟩ := Classical.axiomOfChoice each
  have hle : ((List.range len).map q).length = len := by simp
  have hget : ∀ k, k < len → ((List.range len).map q).getD k 0 = q k := fun k hk => by simp [List.getD, hk]
  refine ⟨(List.range len).map q, ⟨some a, cap, by rw [hle], by rw [hle]; exact hl, ?_⟩, fun d hd => ?_, by rw [hle]; unfold maxLen at hm; omega⟩
  · by_cases h0 : len = 0
    · exact .inl (by subst h0; rfl)
    · refine .inr ?_
      obtain ⟨b, off, spot⟩ := a
      have hc0 := (hq 0 (by omega)).1
      have hspot : spot = none := by simpa [Addr.add] using World.cell?_spot hc0
      subst hspot
      refine ⟨b, off, rfl, World.block_lt_of_cell? w _ hc0, fun i hi => ?_⟩
      rw [hle] at hi
      rw [hget i hi]
      have hh := (hq i hi).1
      by_cases h0 : i = 0
      · subst h0; simpa [Addr.add] using hh
      · simpa [Addr.add, h0] using hh
  · obtain ⟨k, hk, rfl⟩ := List.mem_map.1 hd
    exact (hq k (by simpa using hk)).2
theorem read_three {H : Type} {enc : TypeId × Value → H} {w : World} {base : Nat} {spare : Nat → Bool} {held : Bool} {fuel : Nat} {cs : List Value} {x : DataW H × List MemPlace} {T E0 E1 E2 : TypeId} {g0 g1 g2 : Field}
    (hT : Tryz.prog.underlying T = some (.struct #[g0, g1, g2])) (hc : Tryz.prog.cellsOf T = 3) (o0 : g0.offset = 0) (o1 : g1.offset = 1) (o2 : g2.offset = 2)
    (h0 : Tryz.prog.underlying g0.type = some (.slice E0)) (h1 : Tryz.prog.underlying g1.type = some (.slice E1)) (h2 : Tryz.prog.underlying g2.type = some (.slice E2))
    (c0' : Tryz.prog.cellsOf g0.type = 1) (c1' : Tryz.prog.cellsOf g1.type = 1) (c2' : Tryz.prog.cellsOf g2.type = 1)
    (e0 : Tryz.prog.underlying E0 = some (.int .i64)) (e1 : Tryz.prog.underlying E1 = some (.int .i64)) (e2 : Tryz.prog.underlying E2 = some (.float .f64))
    (d0 : Tryz.prog.cellsOf E0 = 1) (d1 : Tryz.prog.cellsOf E1 = 1) (d2 : Tryz.prog.cellsOf E2 = 1)
    (h : DataW.trod enc Tryz.prog w base spare held fuel T cs = some x) :
    ∃ C I N f, cs = [C, I, N] ∧ Fact3 w C I N f ∧ FaWf f := by
  obtain ⟨xs, n, -, hx, hlen, hxl, hf⟩ := DataW.trod_struct hT h
  rw [hc] at hlen
  match cs, hlen with
  | [c0, c1, c2], _ =>
    match xs, hxl with
    | [y0, y1, y2], _ =>
      have q0 := hf 0 g0 rfl
      have q1 := hf 1 g1 rfl
      have q2 := hf 2 g2 rfl
      rw [o0, c0'] at q0
      rw [o1, c1'] at q1
      rw [o2, c2'] at q2
      obtain ⟨l0, k0, w0, m0⟩ := longs_of h0 e0 d0 q0
      obtain ⟨l1, k1, w1, m1⟩ := longs_of h1 e1 d1 q1
      obtain ⟨l2, k2, w2, m2⟩ := fls_of h2 e2 d2 q2
      exact ⟨c0, c1, c2, ⟨l0, l1, l2⟩, rfl, ⟨k0, k1, k2⟩, ⟨w0, w1, w2, m0, m1, m2⟩⟩
theorem facts_gen {H : Type} {enc : TypeId × Value → H} {w : World} {base : Nat} {spare : Nat → Bool} {held : Bool} {v : Value} {d : DataW H} {p : List MemPlace} {T E : TypeId} (hT : Tryz.prog.underlying T = some (.slice E)) (hc3 : Tryz.prog.cellsOf E = 3)
    (hr : ∀ {fuel : Nat} {cs : List Value} {x : DataW H × List MemPlace}, DataW.trod enc Tryz.prog w base spare held fuel E cs = some x → ∃ C I N f, cs = [C, I, N] ∧ Fact3 w C I N f ∧ FaWf f)
    (h : DataW.Trod enc Tryz.prog w base spare held T v d p) (hs : ∃ a l c, v = .slice a l c) : ∃ l, Facts w v l ∧ ∀ f ∈ l, FaWf f := by
  obtain ⟨fuel, h⟩ := h
  obtain ⟨a0, l0, c0, rfl⟩ := hs
  rcases open_slice hT h with ⟨hv, -⟩ | ⟨a, len, cap, m, nn, Dx, Pl, hv, -, hl, hcm, hmm, -, hi⟩
  · simp [Value.cells] at hv
    obtain ⟨rfl, rfl, rfl⟩ := hv
    exact ⟨[], ⟨none, 0, rfl, by simp, by simp, .inl rfl⟩, fun _ h => by cases h⟩
  · simp [Value.cells] at hv
    obtain ⟨rfl, rfl, rfl⟩ := hv
    have hlm : l0 ≤ m := by rw [hmm]; split <;> omega
    have hq : ∀ k, ∃ f : Fa, k < l0 → ∃ C I N, (∀ j, j < 3 → w.cell? ((a.add (k * 3)).add j) = [C, I, N][j]?) ∧ Fact3 w C I N f ∧ FaWf f := by
      intro k
      by_cases hk : k < l0
      · obtain ⟨cs', hc, ht⟩ := hi k (by omega)
        obtain ⟨C, I, N, f, rfl, h3, hwf⟩ := hr ht
        rw [hc3] at hc
        obtain ⟨-, -, hat⟩ := World.cells?_some hc
        exact ⟨f, fun _ => ⟨C, I, N, hat, h3, hwf⟩⟩
      · exact ⟨⟨[], [], []⟩, fun h => absurd h hk⟩
    obtain ⟨q, hq⟩ := Classical.axiomOfChoice hq
    have hle : ((List.range l0).map q).length = l0 := by simp
    have hget : ∀ k (h : k < ((List.range l0).map q).length), ((List.range l0).map q)[k] = q k := fun k hk => by simp
    refine ⟨(List.range l0).map q, ⟨some a, c0, by rw [hle], by rw [hle]; exact hl, by rw [hle]; unfold maxLen at hcm; omega, ?_⟩, fun d hd => ?_⟩
    · by_cases h0 : l0 = 0
      · exact .inl (by subst h0; rfl)
      · refine .inr ?_
        obtain ⟨b, off, spot⟩ := a
        obtain ⟨C, I, N, hc, -⟩ := hq 0 (by omega)
        have hc := hc 0 (by omega)
        have hspot : spot = none := by simpa [Addr.add] using World.cell?_spot hc
        subst hspot
        refine ⟨b, off, rfl, World.block_lt_of_cell? w _ hc, fun k hk => ?_⟩
        obtain ⟨C, I, N, hh, h3, -⟩ := hq k (by omega)
        have ha : (⟨b, off, none⟩ : Addr).add (k * 3) = ⟨b, off + k * 3, none⟩ := by
          by_cases k0 : k = 0
          · subst k0; simp [Addr.add]
          · have k6 : ¬ k * 3 = 0 := by omega
            simp only [Addr.add, if_neg k6]
        rw [ha] at hh
        have h0 := hh 0 (by omega)
        have h1 := hh 1 (by omega)
        have h2 := hh 2 (by omega)
        simp only [Addr.add, if_true, Nat.one_ne_zero, if_false] at h0 h1 h2
        rw [hget k hk]
        exact ⟨C, I, N, ⟨h0, h1, by simpa using h2⟩, h3⟩
    · obtain ⟨k, hk, rfl⟩ := List.mem_map.1 hd
      obtain ⟨C, I, N, -, -, hwf⟩ := hq k (by simpa using hk)
      exact hwf
end Go.Proofs.YtdnbjaeeebodkaaGreat
