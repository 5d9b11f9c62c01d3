/- Layer 11: the reference's Put. -/
import Derived.Test.YtdnbjaeeebodkaaGreatScht
import Derived.Test.YtdnbjaeeebodkaaGreatSchk
namespace Go.Proofs.YtdnbjaeeebodkaaGreat
set_option maxRecDepth 100000
open Go.RowKit
set_option linter.unusedVariables false
theorem ofS_strB {l : List Int} (h : Bt l) : ofS (strB l) = l := by
  unfold ofS strB
  simp only [List.map_map]
  conv => rhs; rw [← List.map_id l]
  refine List.map_congr_left fun x hx => ?_
  have := h x hx
  simp only [Function.comp, id]
  rw [UInt8.toNat_ofNat_of_lt' (by show x.toNat < 256; omega)]
  omega
theorem strB_of (s : ByteArray) : strB (ofS s) = s := by
  unfold strB ofS
  have e : (s.data.toList.map fun c => (c.toNat : Int)).map (fun x => UInt8.ofNat x.toNat) = s.data.toList := by
    rw [List.map_map]
    conv => rhs; rw [← List.map_id s.data.toList]
    refine List.map_congr_left fun c _ => ?_
    simp
  rw [e]
theorem bigN_fill {t : List Int} (h : Bt t) : ∀ n, n ≤ t.length → bigN (fillN t 0 n).toNat n = t.take n
  | 0, _ => rfl
  | n + 1, hl => by
    cases t with
    | nil => simp at hl
    | cons c t =>
      have hc := h.head
      have hf := fill_range h.tail (f := 0) (by decide) (by decide) n
      have hl' : n ≤ t.length := by simpa using hl
      have e : fillN (c :: t) 0 (n + 1) = c * 256 ^ n + fillN t 0 n := by
        rw [fill_head]; rfl
      have hp : ((256 ^ n : Nat) : Int) = 256 ^ n := by rw [Int.natCast_pow]; rfl
      obtain ⟨F, hF⟩ : ∃ F : Nat, fillN t 0 n = F := ⟨(fillN t 0 n).toNat, by omega⟩
      obtain ⟨C, rfl⟩ : ∃ C : Nat, c = C := ⟨c.toNat, by omega⟩
      have hFl : F < 256 ^ n := by rw [hF, ← hp] at hf; omega
      have e2 : (fillN ((C : Int) :: t) 0 (n + 1)).toNat = C * 256 ^ n + F := by
        rw [e, hF, ← hp, ← Int.natCast_mul, ← Int.natCast_add]; rfl
      have ih := bigN_fill h.tail n hl'
      rw [hF] at ih
      have e3 : (C * 256 ^ n + F) / 256 ^ n % 256 = C := by
        rw [Nat.mul_comm, Nat.mul_add_div (p256_pos n), Nat.div_eq_of_lt hFl, Nat.add_zero]
        exact Nat.mod_eq_of_lt (by omega)
      have e4 : bigN (C * 256 ^ n + F) n = bigN F n := by
        rw [← bigN_mod _ n n (Nat.le_refl _), Nat.mul_comm, Nat.mul_add_mod, Nat.mod_eq_of_lt hFl]
      rw [e2, bigN, e3, e4, List.take_succ_cons, ← ih]
      rfl
/-- What is decoded without an error was so encoded. -/
theorem getU_inv {b : List Int} (hb : Bt b) (h : (getU b).2.2 = 0) : b.take (getU b).2.1 = encU (getU b).1.toNat := by
  cases b with
  | nil => simp [getU] at h
  | cons c t =>
    rw [getU_cons] at h ⊢
    split at h
    · simp at h
    · rename_i h1
      split at h
      · simp at h
      · rename_i h2
        rw [if_neg h1, if_neg h2]
        have hc := hb.head
        obtain ⟨n, rfl⟩ : ∃ n : Nat, c = n := ⟨c.toNat, by omega⟩
        simp only [Int.toNat_natCast] at h2 ⊢
        have h8 : n ≤ 8 := by omega
        have hl : n ≤ t.length := by omega
        have hr := fill_range hb.tail (f := 0) (by decide) (by decide) n
        have hp : ((256 ^ n : Nat) : Int) = 256 ^ n := by rw [Int.natCast_pow]; rfl
        have hle : 256 ^ n ≤ 256 ^ 8 := Nat.pow_le_pow_right (by decide) h8
        have h88 : (256 : Nat) ^ 8 = 18446744073709551616 := by decide
        obtain ⟨X, hX⟩ : ∃ X : Nat, fillN t 0 n = X := ⟨(fillN t 0 n).toNat, by omega⟩
        have hXl : X < 256 ^ n := by rw [hX, ← hp] at hr; omega
        have hlow : n = 0 ∨ 256 ^ (n - 1) ≤ X := by
          by_cases h0 : n = 0
          · exact .inl h0
          · right
            obtain ⟨k, rfl⟩ : ∃ k, n = k + 1 := ⟨n - 1, by omega⟩
            cases t with
            | nil => simp at hl
            | cons d t2 =>
              have hd := hb.tail.head
              have hne : d ≠ 0 := by
                intro e
                subst e
                exact h1 (.inr ⟨by omega, by simp⟩)
              rw [fill_head] at hX
              have hr2 := fill_range hb.tail.tail (f := 0) (by decide) (by decide) k
              simp only [List.tail_cons, List.getD_cons_zero] at hX hr2
              have hpk : ((256 ^ k : Nat) : Int) = 256 ^ k := by rw [Int.natCast_pow]; rfl
              have hk0 := p256_pos k
              have hm := Int.mul_le_mul_of_nonneg_right (show (1 : Int) ≤ d by omega) (show (0 : Int) ≤ 256 ^ k by rw [← hpk]; omega)
              rw [Int.one_mul] at hm
              show 256 ^ k ≤ X
              rw [← hpk] at hm hX
              omega
        have hbn : bytesN X = n := (bytesN_is X (by omega)).unique ⟨hXl, hlow⟩
        have hbf := bigN_fill hb.tail n hl
        rw [hX] at hbf
        rw [hX]
        simp only [Int.toNat_natCast] at hbf ⊢
        unfold encU
        rw [hbn, List.take_succ_cons, hbf]
theorem getT_inv : ∀ (b acc : List Int) (i : Nat), (getT b acc i).2.2 = 0 → ∃ s, (getT b acc i).1 = acc ++ s ∧ (getT b acc i).2.1 = i + (encT s).length ∧ b.take (encT s).length = encT s
  | [], acc, i, h => by simp [getT_nil] at h
  | [c], acc, i, h => by simp [getT_one] at h
  | c :: d :: t, acc, i, h => by
    by_cases h0 : c = 0
    · subst h0
      by_cases h1 : d = 0
      · subst h1
        rw [getT_stop] at h ⊢
        exact ⟨[], by simp, by simp [encT, encP], by simp [encT, encP]⟩
      · by_cases h2 : d = 1
        · subst h2
          rw [getT_zero] at h ⊢
          obtain ⟨s, e1, e2, e3⟩ := getT_inv t _ _ h
          have ee : encT (0 :: s) = 0 :: 1 :: encT s := by rw [encT_cons]; rfl
          refine ⟨0 :: s, by rw [e1]; simp, by rw [e2, ee]; simp; omega, ?_⟩
          rw [ee]
          simp [e3]
        · rw [getT_bad h1 h2] at h; simp at h
    · rw [getT_char h0] at h ⊢
      obtain ⟨s, e1, e2, e3⟩ := getT_inv (d :: t) _ _ h
      have ee : encT (c :: s) = c :: encT s := by rw [encT_cons]; simp [pieT, h0]
      refine ⟨c :: s, by rw [e1]; simp, by rw [e2, ee]; simp; omega, ?_⟩
      rw [ee]
      simp [e3]
/-- The encoding of a schema. -/
def encD (ds : List (ByteArray × Int)) : List Int := ds.flatMap fun d => encT (ofS d.1) ++ encU d.2.toNat
def encTs (l : List ByteArray) : List Int := l.flatMap fun s => encT (ofS s)
def encV (vs : List Int) : List Int := vs.flatMap fun v => encU v.toNat
def encS (S : Sc) : List Int := encU S.ds.length ++ encD S.ds ++ (encU S.is.length ++ encTs S.is) ++ (encU S.ns.length ++ encTs S.ns) ++ (encU S.vs.length ++ encV S.vs)
theorem take_more {b : List Int} {p q : Nat} {X Y : List Int} (hp : b.take p = X) (hq : (b.drop p).take q = Y) : b.take (p + q) = X ++ Y := by
  rw [List.take_add, hp, hq]
theorem stU_inv {b : List Int} (hb : Bt b) {most : Int} {s : Nat × Nat} (h : (stU b most s).2.2 = 0) : s.2 = 0 ∧ ∀ X, b.take s.1 = X → b.take (stU b most s).2.1 = X ++ encU (stU b most s).1.toNat := by
  unfold stU at h ⊢
  split at h
  · rename_i h0
    rw [if_pos h0]
    refine ⟨h0, fun X hX => ?_⟩
    simp only at h ⊢
    rw [if_pos h]
    have hi : uN most (getU (b.drop s.1)) = getU (b.drop s.1) := by
      unfold uN at h ⊢
      split
      · rename_i q; rw [if_pos q] at h; simp at h
      · rfl
    rw [hi] at h ⊢
    exact take_more hX (getU_inv (hb.drop _) h)
  · rename_i h0; exact absurd h h0
theorem stT_inv {b : List Int} (hb : Bt b) {most : Int} {s : Nat × Nat} (h : (stT b most s).2.2 = 0) : s.2 = 0 ∧ ∀ X, b.take s.1 = X → b.take (stT b most s).2.1 = X ++ encT (stT b most s).1 := by
  unfold stT at h ⊢
  split at h
  · rename_i h0
    rw [if_pos h0]
    refine ⟨h0, fun X hX => ?_⟩
    simp only at h ⊢
    rw [if_pos h]
    have hi : tN most (getT (b.drop s.1) [] 0) = getT (b.drop s.1) [] 0 := by
      unfold tN at h ⊢
      split
      · rename_i q; rw [if_pos q] at h; simp at h
      · rfl
    rw [hi] at h ⊢
    obtain ⟨u, e1, e2, e3⟩ := getT_inv _ _ _ h
    rw [e1, e2, Nat.zero_add, List.nil_append]
    exact take_more hX e3
  · rename_i h0; exact absurd h h0
theorem encD_snoc (ds : List (ByteArray × Int)) (d : ByteArray × Int) : encD (ds ++ [d]) = encD ds ++ (encT (ofS d.1) ++ encU d.2.toNat) := by simp [encD]
theorem encTs_snoc (l : List ByteArray) (s : ByteArray) : encTs (l ++ [s]) = encTs l ++ encT (ofS s) := by simp [encTs]
theorem encV_snoc (vs : List Int) (v : Int) : encV (vs ++ [v]) = encV vs ++ encU v.toNat := by simp [encV]
theorem dimsK_inv {b : List Int} (hb : Bt b) {s : Nat × Nat} : ∀ k, (dimsK b s k).2.2 = 0 → s.2 = 0 ∧ ∀ X, b.take s.1 = X → b.take (dimsK b s k).2.1 = X ++ encD (dimsK b s k).1
  | 0, h => ⟨h, fun X hX => by simp [dimsK, encD, hX]⟩
  | k + 1, h => by
    have h1 := stU_inv hb (most := 4096) (s := (stT b 16 (dimsK b s k).2).2) h
    have h2 := stT_inv hb (most := 16) (s := (dimsK b s k).2) h1.1
    have h3 := dimsK_inv hb k h2.1
    refine ⟨h3.1, fun X hX => ?_⟩
    have h4 := h1.2 _ (h2.2 _ (h3.2 X hX))
    rw [dimsK, encD_snoc]
    simp only
    rw [h4, ofS_strB (stT_val hb (by decide) _).1]
    simp [List.append_assoc]
theorem textsK_inv {b : List Int} (hb : Bt b) {s : Nat × Nat} : ∀ k, (textsK b s k).2.2 = 0 → s.2 = 0 ∧ ∀ X, b.take s.1 = X → b.take (textsK b s k).2.1 = X ++ encTs (textsK b s k).1
  | 0, h => ⟨h, fun X hX => by simp [textsK, encTs, hX]⟩
  | k + 1, h => by
    have h2 := stT_inv hb (most := 16) (s := (textsK b s k).2) h
    have h3 := textsK_inv hb k h2.1
    refine ⟨h3.1, fun X hX => ?_⟩
    have h4 := h2.2 _ (h3.2 X hX)
    rw [textsK, encTs_snoc]
    simp only
    rw [h4, ofS_strB (stT_val hb (by decide) _).1]
    simp [List.append_assoc]
theorem setsK_inv {b : List Int} (hb : Bt b) {s : Nat × Nat} : ∀ k, (setsK b s k).2.2 = 0 → s.2 = 0 ∧ ∀ X, b.take s.1 = X → b.take (setsK b s k).2.1 = X ++ encV (setsK b s k).1
  | 0, h => ⟨h, fun X hX => by simp [setsK, encV, hX]⟩
  | k + 1, h => by
    have h2 := stU_inv hb (most := 4294967295) (s := (setsK b s k).2) h
    have h3 := setsK_inv hb k h2.1
    refine ⟨h3.1, fun X hX => ?_⟩
    have h4 := h2.2 _ (h3.2 X hX)
    rw [setsK, encV_snoc]
    simp only
    rw [h4]
    simp [List.append_assoc]
/-- What is read without an error has these bytes. -/
theorem rd_enc {b : List Int} (hb : Bt b) (h : getE b = 0) : encS (rdS b) = b ∧ checkL (rdS b) = 0 := by
  unfold getE at h
  split at h
  · rename_i h0; exact absurd h h0
  · rename_i h0
    refine ⟨?_, h⟩
    have he : endE b (rdV b).2 = 0 := by omega
    have hst := rd_st hb
    have hfull : (rdV b).2.2 = 0 ∧ (rdV b).2.1 = b.length := by
      unfold endE at he
      split at he
      · simp at he
      · rename_i q
        refine ⟨he, ?_⟩
        have := hst.2.2.2.2.2.2.2.1
        by_cases q2 : (rdV b).2.1 < b.length
        · exact absurd ⟨he, q2⟩ q
        · omega
    have i8 := setsK_inv hb _ hfull.1
    have i7 := stU_inv hb i8.1
    have i6 := textsK_inv hb _ i7.1
    have i5 := stU_inv hb i6.1
    have i4 := textsK_inv hb _ i5.1
    have i3 := stU_inv hb i4.1
    have i2 := dimsK_inv hb _ i3.1
    have i1 := stU_inv hb i2.1
    have f := i8.2 _ (i7.2 _ (i6.2 _ (i5.2 _ (i4.2 _ (i3.2 _ (i2.2 _ (i1.2 [] (by simp))))))))
    have e1 : (rdV b).2.1 = b.length := hfull.2
    have f2 : b = b.take (rdV b).2.1 := by rw [e1, List.take_length]
    have l1 := rdD_len hb
    have l2 := rdI_len hb
    have l3 := rdN_len hb
    have l4 := rdV_len hb
    conv => rhs; rw [f2]
    refine Eq.trans ?_ f.symm
    unfold encS rdS
    simp only
    rw [l1, l2, l3, l4]
    show _ = [] ++ encU (numD b).1.toNat ++ encD (rdD b).1 ++ encU (numI b).1.toNat ++ encTs (rdI b).1 ++ encU (numN b).1.toNat ++ encTs (rdN b).1 ++ encU (numV b).1.toNat ++ encV (rdV b).1
    simp only [List.append_assoc, List.nil_append]
set_option maxRecDepth 100000
open Go.RowKit
set_option linter.unusedVariables false
theorem drop_more {b X rest : List Int} {p : Nat} (hd : b.drop p = X ++ rest) : b.drop (p + X.length) = rest := by
  rw [← List.drop_drop, hd, List.drop_left]
theorem stU_fwd {b rest : List Int} {p x : Nat} {most : Int} (hd : b.drop p = encU x ++ rest) (hx : x < 18446744073709551616) (hm : (x : Int) ≤ most) : stU b most (p, 0) = ((x : Int), p + (encU x).length, 0) := by
  unfold stU
  rw [if_pos rfl]
  simp only
  rw [hd, getU_enc hx]
  have e : uN most ((x : Int), (encU x).length, 0) = ((x : Int), (encU x).length, 0) := by
    unfold uN; rw [if_neg (fun h => absurd h.2 (Int.not_lt.2 hm))]
  rw [e]
  simp
theorem stT_fwd {b rest s : List Int} {p : Nat} {most : Int} (hd : b.drop p = encT s ++ rest) (h0 : 0 ≤ most) (hm : (s.length : Int) ≤ most) : stT b most (p, 0) = (s, p + (encT s).length, 0) := by
  unfold stT
  rw [if_pos rfl]
  simp only
  rw [hd, getT_enc, List.nil_append, Nat.zero_add]
  have e : tN most (s, (encT s).length, 0) = (s, (encT s).length, 0) := by
    unfold tN; rw [if_neg (fun h => by have := h.2; simp only at this; omega)]
  rw [e]
  simp
theorem encD_cons (d : ByteArray × Int) (ds : List (ByteArray × Int)) : encD (d :: ds) = encT (ofS d.1) ++ (encU d.2.toNat ++ encD ds) := by simp [encD]
theorem encTs_cons (s : ByteArray) (l : List ByteArray) : encTs (s :: l) = encT (ofS s) ++ encTs l := by simp [encTs]
theorem encV_cons (v : Int) (vs : List Int) : encV (v :: vs) = encU v.toNat ++ encV vs := by simp [encV]
theorem encD_app (a c : List (ByteArray × Int)) : encD (a ++ c) = encD a ++ encD c := by simp [encD]
theorem encTs_app (a c : List ByteArray) : encTs (a ++ c) = encTs a ++ encTs c := by simp [encTs]
theorem encV_app (a c : List Int) : encV (a ++ c) = encV a ++ encV c := by simp [encV]
theorem dimsK_fwd {b rest : List Int} {p : Nat} {ds : List (ByteArray × Int)} (hd : b.drop p = encD ds ++ rest) (hw : ∀ d ∈ ds, d.1.size ≤ 16 ∧ 0 ≤ d.2 ∧ d.2 ≤ 4096) : ∀ k, k ≤ ds.length → dimsK b (p, 0) k = (ds.take k, p + (encD (ds.take k)).length, 0)
  | 0, _ => by simp [dimsK, encD]
  | k + 1, hk => by
    have ih := dimsK_fwd hd hw k (by omega)
    have hg : ds.drop k = ds[k] :: ds.drop (k + 1) := List.drop_eq_getElem_cons (by omega)
    have h1 : b.drop (p + (encD (ds.take k)).length) = encT (ofS ds[k].1) ++ (encU ds[k].2.toNat ++ (encD (ds.drop (k + 1)) ++ rest)) := by
      refine drop_more (X := encD (ds.take k)) ?_
      rw [hd]
      conv => lhs; rw [← List.take_append_drop k ds, encD_app, hg, encD_cons]
      simp only [List.append_assoc]
    obtain ⟨w1, w2, w3⟩ := hw ds[k] (List.getElem_mem (by omega))
    have t1 := stT_fwd (most := 16) h1 (by decide) (by rw [ofS_len]; omega)
    have h2 := drop_more h1
    have u1 := stU_fwd (most := 4096) h2 (by omega) (by omega)
    have et : ds.take (k + 1) = ds.take k ++ [ds[k]] := by rw [List.take_add_one, List.getElem?_eq_getElem (by omega)]; rfl
    have ez : ((ds[k].2.toNat : Nat) : Int) = ds[k].2 := by omega
    rw [dimsK, ih]
    simp only
    rw [t1]
    simp only
    rw [u1, et, encD_snoc, strB_of, ez]
    simp only [List.length_append, Nat.add_assoc]
theorem textsK_fwd {b rest : List Int} {p : Nat} {l : List ByteArray} (hd : b.drop p = encTs l ++ rest) (hw : ∀ d ∈ l, d.size ≤ 16) : ∀ k, k ≤ l.length → textsK b (p, 0) k = (l.take k, p + (encTs (l.take k)).length, 0)
  | 0, _ => by simp [textsK, encTs]
  | k + 1, hk => by
    have ih := textsK_fwd hd hw k (by omega)
    have hg : l.drop k = l[k] :: l.drop (k + 1) := List.drop_eq_getElem_cons (by omega)
    have h1 : b.drop (p + (encTs (l.take k)).length) = encT (ofS l[k]) ++ (encTs (l.drop (k + 1)) ++ rest) := by
      refine drop_more (X := encTs (l.take k)) ?_
      rw [hd]
      conv => lhs; rw [← List.take_append_drop k l, encTs_app, hg, encTs_cons]
      simp only [List.append_assoc]
    have w1 := hw l[k] (List.getElem_mem (by omega))
    have t1 := stT_fwd (most := 16) h1 (by decide) (by rw [ofS_len]; omega)
    have et : l.take (k + 1) = l.take k ++ [l[k]] := by rw [List.take_add_one, List.getElem?_eq_getElem (by omega)]; rfl
    rw [textsK, ih]
    simp only
    rw [t1, et, encTs_snoc, strB_of]
    simp only [List.length_append, Nat.add_assoc]
theorem setsK_fwd {b rest : List Int} {p : Nat} {l : List Int} (hd : b.drop p = encV l ++ rest) (hw : ∀ d ∈ l, 0 ≤ d ∧ d ≤ 4294967295) : ∀ k, k ≤ l.length → setsK b (p, 0) k = (l.take k, p + (encV (l.take k)).length, 0)
  | 0, _ => by simp [setsK, encV]
  | k + 1, hk => by
    have ih := setsK_fwd hd hw k (by omega)
    have hg : l.drop k = l[k] :: l.drop (k + 1) := List.drop_eq_getElem_cons (by omega)
    have h1 : b.drop (p + (encV (l.take k)).length) = encU l[k].toNat ++ (encV (l.drop (k + 1)) ++ rest) := by
      refine drop_more (X := encV (l.take k)) ?_
      rw [hd]
      conv => lhs; rw [← List.take_append_drop k l, encV_app, hg, encV_cons]
      simp only [List.append_assoc]
    have w1 := hw l[k] (List.getElem_mem (by omega))
    have t1 := stU_fwd (most := 4294967295) h1 (by omega) (by omega)
    have et : l.take (k + 1) = l.take k ++ [l[k]] := by rw [List.take_add_one, List.getElem?_eq_getElem (by omega)]; rfl
    have ez : ((l[k].toNat : Nat) : Int) = l[k] := by omega
    rw [setsK, ih]
    simp only
    rw [t1, et, encV_snoc, ez]
    simp only [List.length_append, Nat.add_assoc]
/-- What a schema of few short elements holds. -/
structure Fit (S : Sc) : Prop where
  cnt : S.ds.length ≤ 6 ∧ S.is.length ≤ 3 ∧ S.ns.length ≤ 2 ∧ S.vs.length ≤ 15
  d : ∀ d ∈ S.ds, d.1.size ≤ 16 ∧ 0 ≤ d.2 ∧ d.2 ≤ 4096
  i : ∀ s ∈ S.is, s.size ≤ 16
  n : ∀ s ∈ S.ns, s.size ≤ 16
  v : ∀ v ∈ S.vs, 0 ≤ v ∧ v ≤ 4294967295
theorem good_size {l : List ByteArray} (h : goodN l = true) : ∀ s ∈ l, s.size ≤ 16 := by
  intro s hs
  obtain ⟨k, hk, rfl⟩ := List.getElem_of_mem hs
  have := List.all_eq_true.1 h k (by simpa using hk)
  rw [txt_get hk] at this
  unfold nameB at this
  simp only [Bool.and_eq_true, decide_eq_true_eq] at this
  exact this.1.1.2
theorem check_names {S : Sc} (h : checkL S = 0) : goodN (namesL S) = true := by
  unfold checkL at h
  split at h
  · cases h
  · split at h
    · cases h
    · rename_i h2; simpa using h2
theorem check_cnt' {S : Sc} (h : checkL S = 0) : cntB S = true ∧ sizB S.ds = true := by
  unfold checkL at h
  split at h
  · cases h
  · rename_i h1
    split at h
    · cases h
    · split at h
      · cases h
      · split at h
        · cases h
        · rename_i h2
          exact ⟨by simpa using h1, by simpa using h2⟩
theorem fit_of {S : Sc} (h : checkL S = 0) (hw : SWf S) : Fit S := by
  have hc := check_cnt' h
  have hn := good_size (check_names h)
  obtain ⟨c1, c2, c3, c4, c5⟩ := cnt_iff.1 hc.1
  refine ⟨⟨c2, c3, c4, c5⟩, fun d hd => ⟨?_, ?_⟩, fun s hs => ?_, fun s hs => ?_, hw.v⟩
  · exact hn _ (by unfold namesL; exact List.mem_append_left _ (List.mem_append_left _ (List.mem_map_of_mem hd)))
  · obtain ⟨k, hk, rfl⟩ := List.getElem_of_mem hd
    have := siz_get hc.2 hk
    rw [dz_get hk] at this
    omega
  · exact hn _ (by unfold namesL; exact List.mem_append_left _ (List.mem_append_right _ hs))
  · exact hn _ (by unfold namesL; exact List.mem_append_right _ hs)
theorem rd_fwd {S : Sc} (hf : Fit S) : rdS (encS S) = S ∧ (rdV (encS S)).2 = ((encS S).length, 0) := by
  obtain ⟨⟨c1, c2, c3, c4⟩, fd, fi, fn, fv⟩ := hf
  obtain ⟨b, hb⟩ : ∃ b, encS S = b := ⟨_, rfl⟩
  have h0 : b.drop 0 = encU S.ds.length ++ (encD S.ds ++ (encU S.is.length ++ (encTs S.is ++ (encU S.ns.length ++ (encTs S.ns ++ (encU S.vs.length ++ (encV S.vs ++ []))))))) := by
    rw [← hb]; unfold encS; simp [List.append_assoc]
  rw [hb]
  have s1 : numD b = _ := stU_fwd (most := 6) h0 (by omega) (by omega)
  have h1 := drop_more h0
  have s2 := dimsK_fwd h1 fd S.ds.length (Nat.le_refl _)
  rw [List.take_length] at s2
  have r2 := show rdD b = dimsK b (numD b).2 (numD b).1.toNat from rfl
  rw [s1] at r2
  have r2 := r2.trans s2
  have h2 := drop_more h1
  have s3 := show numI b = stU b 3 (rdD b).2 from rfl
  rw [r2] at s3
  have s3 := s3.trans (stU_fwd (most := 3) h2 (by omega) (by omega))
  have h3 := drop_more h2
  have s4 := textsK_fwd h3 fi S.is.length (Nat.le_refl _)
  rw [List.take_length] at s4
  have r4 := show rdI b = textsK b (numI b).2 (numI b).1.toNat from rfl
  rw [s3] at r4
  have r4 := r4.trans s4
  have h4 := drop_more h3
  have s5 := show numN b = stU b 2 (rdI b).2 from rfl
  rw [r4] at s5
  have s5 := s5.trans (stU_fwd (most := 2) h4 (by omega) (by omega))
  have h5 := drop_more h4
  have s6 := textsK_fwd h5 fn S.ns.length (Nat.le_refl _)
  rw [List.take_length] at s6
  have r6 := show rdN b = textsK b (numN b).2 (numN b).1.toNat from rfl
  rw [s5] at r6
  have r6 := r6.trans s6
  have h6 := drop_more h5
  have s7 := show numV b = stU b 15 (rdN b).2 from rfl
  rw [r6] at s7
  have s7 := s7.trans (stU_fwd (most := 15) h6 (by omega) (by omega))
  have h7 := drop_more h6
  have s8 := setsK_fwd h7 fv S.vs.length (Nat.le_refl _)
  rw [List.take_length] at s8
  have r8 := show rdV b = setsK b (numV b).2 (numV b).1.toNat from rfl
  rw [s7] at r8
  have r8 := r8.trans s8
  have hl : b.length = 0 + (encU S.ds.length).length + (encD S.ds).length + (encU S.is.length).length + (encTs S.is).length + (encU S.ns.length).length + (encTs S.ns).length + (encU S.vs.length).length + (encV S.vs).length := by
    rw [← hb]; unfold encS; simp only [List.length_append]; omega
  refine ⟨?_, ?_⟩
  · unfold rdS
    rw [r2, r4, r6, r8]
  · rw [r8, hl]
theorem get_enc {S : Sc} (h : checkL S = 0) (hw : SWf S) : getE (encS S) = 0 ∧ getS (encS S) = S := by
  have hr := rd_fwd (fit_of h hw)
  have he : getE (encS S) = 0 := by
    unfold getE endE
    rw [hr.2, hr.1]
    simp [h]
  exact ⟨he, by unfold getS; rw [if_pos he, hr.1]⟩
set_option maxRecDepth 100000
open Go.RowKit
set_option linter.unusedVariables false
theorem own_stay {w w' : World} {B E sz n : Nat} {v : Value} {xs : List Value} (h : w.ownsRow B E sz v n xs) (hb : Below w.heap.size w w') : w'.ownsRow B E sz v n xs := by
  refine h.kept (row := none) ⟨hb.os, hb.tape, hb.output, hb.size, fun k hk _ => hb.block k hk⟩ ?_
  cases v.ownBlock with
  | none => exact .inl rfl
  | some g => exact .inr (by simp)
theorem encT_le (s : ByteArray) : (encT (ofS s)).length ≤ 2 * s.size + 2 := by
  have := encP_len (ofS s)
  rw [ofS_len] at this
  unfold encT
  rw [List.length_append]
  simp
  omega
theorem encTs_le {l : List ByteArray} (h : ∀ s ∈ l, s.size ≤ 16) : ∀ k, (encTs (l.take k)).length ≤ 34 * k
  | 0 => by simp [encTs]
  | k + 1 => by
    have ih := encTs_le h k
    by_cases hk : k < l.length
    · have et : l.take (k + 1) = l.take k ++ [l[k]] := by rw [List.take_add_one, List.getElem?_eq_getElem hk]; rfl
      rw [et, encTs_snoc, List.length_append]
      have h1 := encT_le l[k]
      have h2 := h l[k] (List.getElem_mem hk)
      omega
    · have e1 : l.take (k + 1) = l := List.take_of_length_le (by omega)
      have e2 : l.take k = l := List.take_of_length_le (by omega)
      rw [e1]; rw [e2] at ih; omega
theorem encD_le {l : List (ByteArray × Int)} (h : ∀ s ∈ l, s.1.size ≤ 16 ∧ 0 ≤ s.2 ∧ s.2 ≤ 4096) : ∀ k, (encD (l.take k)).length ≤ 43 * k
  | 0 => by simp [encD]
  | k + 1 => by
    have ih := encD_le h k
    by_cases hk : k < l.length
    · have et : l.take (k + 1) = l.take k ++ [l[k]] := by rw [List.take_add_one, List.getElem?_eq_getElem hk]; rfl
      rw [et, encD_snoc, List.length_append, List.length_append]
      have h1 := encT_le l[k].1
      have h2 := h l[k] (List.getElem_mem hk)
      have h3 := (encU_len (x := l[k].2.toNat) (by omega)).2
      omega
    · have e1 : l.take (k + 1) = l := List.take_of_length_le (by omega)
      have e2 : l.take k = l := List.take_of_length_le (by omega)
      rw [e1]; rw [e2] at ih; omega
theorem encV_le {l : List Int} (h : ∀ s ∈ l, 0 ≤ s ∧ s ≤ 4294967295) : ∀ k, (encV (l.take k)).length ≤ 9 * k
  | 0 => by simp [encV]
  | k + 1 => by
    have ih := encV_le h k
    by_cases hk : k < l.length
    · have et : l.take (k + 1) = l.take k ++ [l[k]] := by rw [List.take_add_one, List.getElem?_eq_getElem hk]; rfl
      rw [et, encV_snoc, List.length_append]
      have h2 := h l[k] (List.getElem_mem hk)
      have h3 := (encU_len (x := l[k].toNat) (by omega)).2
      omega
    · have e1 : l.take (k + 1) = l := List.take_of_length_le (by omega)
      have e2 : l.take k = l := List.take_of_length_le (by omega)
      rw [e1]; rw [e2] at ih; omega
set_option maxRecDepth 100000
open Go.RowKit
set_option linter.unusedVariables false
end Go.Proofs.YtdnbjaeeebodkaaGreat
