/- Contracts that the law leans on, pruned and merged: Aggh. -/
import Derived.Test.YtigikgphipebiaaGreatDoorOn28
/- Layer 14: two cells together, in either order, and three in two ways: plain facts. -/
namespace Go.Proofs.YtigikgphipebiaaGreatDoor
set_option maxRecDepth 100000
open Go.RowKit
set_option linter.unusedVariables false
theorem b4_inj {x y : Int} (hx : 0 ≤ x ∧ x ≤ 4294967295) (hy : 0 ≤ y ∧ y ≤ 4294967295) (h : b4 x = b4 y) : x = y := by
  simp only [b4, List.cons.injEq, and_true] at h
  omega
theorem topB_inj {a b : List Int} (ha : Wd a) (hb : Wd b) : ∀ k, topB a k = topB b k → ∀ i, i < k → a.getD (a.length - 1 - i) 0 = b.getD (b.length - 1 - i) 0
  | 0, _, i, hi => by omega
  | k + 1, h, i, hi => by
    rw [topB_succ, topB_succ] at h
    obtain ⟨h1, h2⟩ := List.append_inj h (by rw [topB_len, topB_len])
    by_cases e : i = k
    · subst e; exact b4_inj (ha.getD _) (hb.getD _) h2
    · exact topB_inj ha hb k h1 i (by omega)
theorem enc_inj {f g : Nat} {t s : Int} {l : List Int} (h : IsEnc f t l) (k : IsEnc g s l) (hf : f < 32) (hg : g < 32) : f = g ∧ t = s := by
  obtain ⟨a, a1, a2, a3, -, a5⟩ := h
  obtain ⟨b, b1, b2, b3, -, b5⟩ := k
  rw [a5] at b5
  unfold encB at b5
  simp only [List.cons_append, List.nil_append, List.cons.injEq] at b5
  obtain ⟨e0, e1, e2, e3⟩ := b5
  have l1 := lowW_le a
  have l2 := lowW_le b
  have ew : lowW a = lowW b := by omega
  have el : a.length = b.length := by omega
  have ek : a.length - lowW a = b.length - lowW b := by omega
  rw [← ek] at e3
  have ht := topB_inj a1 b1 _ e3
  have eab : a = b := by
    apply List.ext_getElem el
    intro i h1 h2
    have q : a.getD i 0 = b.getD i 0 := by
      by_cases hi : i < lowW a
      · rw [lowW_zero a i hi, lowW_zero b i (by omega)]
      · have := ht (a.length - 1 - i) (by omega)
        rw [show a.length - 1 - (a.length - 1 - i) = i by omega, show b.length - 1 - (a.length - 1 - i) = i by omega] at this
        exact this
    simpa [List.getD, List.getElem?_eq_getElem h1, List.getElem?_eq_getElem h2] using q
  subst eab
  by_cases ht0 : t < 0 <;> by_cases hs0 : s < 0 <;> simp [ht0, hs0] at e0 <;> omega

theorem readF_lt (l : List Int) : readF l < 32 := by unfold readF; omega
theorem same_wh (x : Wh) : sameWh x x = true := by simp [sameWh]
theorem sameB_self (x : Nat) : sameB x x = true := by simp [sameB]
theorem same_re (x : Re) : sameRe x x = true := by simp [sameRe, sameB_self]
theorem JC.same {a b c d : Ce} (h : JC a b c) (k : JC a b d) : sameC c d = true :=
  same_iff.2 {
    key := by rw [h.key, k.key]
    cnt := by rw [h.cnt, k.cnt]
    li := by rw [h.li, k.li]
    ln := by rw [h.ln, k.ln]
    is := fun i hi2 => by
      rw [h.li] at hi2
      rw [(h.is i hi2).same (k.is i hi2)]
      exact same_wh _
    ns := fun i hi2 => by
      rw [h.ln] at hi2
      rw [(h.ns i hi2).same (k.ns i hi2)]
      exact same_re _ }
theorem JR.reads {a b x : Re} (h : JR a b x) (hb : Bt5 x.sum) (he : errN x.sum = 0) : readF x.sum = readF a.sum ||| readF b.sum ∧ readT x.sum = readT a.sum + readT b.sum :=
  enc_inj (read_enc hb he) h.sum (readF_lt _) (or_lt (readF_lt _) (readF_lt _))
theorem JR.bt {a b x : Re} (h : JR a b x) : Bt5 x.sum := h.sum.bt (or_lt (readF_lt _) (readF_lt _))
theorem errJ_parts {a b : Ce} (h : errJ a b = 0) : a.key = b.key ∧ a.is.length = b.is.length ∧ a.ns.length = b.ns.length ∧ fitB (a.cnt + b.cnt) = true := by
  unfold errJ at h
  by_cases h1 : a.key = b.key ∧ a.is.length = b.is.length ∧ a.ns.length = b.ns.length
  · rw [if_pos h1] at h
    by_cases h2 : fitB (a.cnt + b.cnt) = true ∧ ∀ k, k < a.is.length → okW (wg a.is k) (wg b.is k) = true
    · exact ⟨h1.1, h1.2.1, h1.2.2, h2.1⟩
    · rw [if_neg h2] at h; cases h
  · rw [if_neg h1] at h; cases h
/-- What is put together is a cell again, a little longer. -/
theorem fitB_i64 {x : Int} (h : fitB x = true) : I64 x := by unfold fitB at h; unfold I64; simp at h; omega
theorem WhW.wd {x : Wh} (h : WhW x) : Wd x.sq := h.sq
theorem JW.len {x y z : Wh} (h : JW x y z) (hx : Wd x.sq) (hy : Wd y.sq) {n : Nat} (lx : x.sq.length ≤ n) (ly : y.sq.length ≤ n) : z.sq.length ≤ n + 1 := by
  refine h.ty.wlen h.wd ?_
  rw [h.sq]
  have h0 := (wv_range hx).1
  have h0' := (wv_range hy).1
  have h1 := (wv_range hx).2
  have h2 := (wv_range hy).2
  have e : ∀ k, k ≤ n → (4294967296 : Int) ^ k ≤ 4294967296 ^ n := fun k hk => by
    have h3 := Nat.pow_le_pow_right (n := 4294967296) (by decide) hk
    have e1 : ((4294967296 ^ k : Nat) : Int) = 4294967296 ^ k := by rw [Int.natCast_pow]; rfl
    have e2 : ((4294967296 ^ n : Nat) : Int) = 4294967296 ^ n := by rw [Int.natCast_pow]; rfl
    rw [← e1, ← e2]
    exact Int.ofNat_le.2 h3
  have e1 := e _ lx
  have e2 := e _ ly
  rw [Int.pow_succ]
  omega
theorem JW.w {x y z : Wh} (h : JW x y z) (hx : WhW x) (hy : WhW y) (lz : z.sq.length ≤ 9223372036854775807) : WhW z where
  sum := by rw [h.sum]; exact fitB_i64 h.f1
  abs := by rw [h.abs]; exact fitB_i64 h.f2
  sq := h.wd
  len := lz
  mn := by have := hx.mn; have := hy.mn; rw [h.mn]; unfold I64 at *; omega
  mx := by have := hx.mx; have := hy.mx; rw [h.mx]; unfold I64 at *; omega
theorem JR.w {x y z : Re} (h : JR x y z) (hx : ReW x) (hy : ReW y) : ReW z where
  sum := h.bt
  len := by have := h.sum.len; omega
  mn := by rw [h.mn]; split; exact hy.mn; exact hx.mn
  mx := by rw [h.mx]; split; exact hy.mx; exact hx.mx
/-- A cell's lists are not long. -/
structure ShortC (n : Nat) (c : Ce) : Prop where
  li : c.is.length ≤ 10
  ln : c.ns.length ≤ 10
  sq : ∀ k, k < c.is.length → (wg c.is k).sq.length ≤ n
theorem JC.short {a b c : Ce} {n : Nat} (h : JC a b c) (ha : CeW a) (hb : CeW b) (sa : ShortC n a) (sb : ShortC n b) (hi : a.is.length = b.is.length) : ShortC (n + 1) c where
  li := by rw [h.li]; exact sa.li
  ln := by rw [h.ln]; exact sa.ln
  sq := fun k hk => by
    rw [h.li] at hk
    exact (h.is k hk).len (ha.wg hk).wd (hb.wg (by omega)).wd (sa.sq k hk) (sb.sq k (by omega))
theorem JC.w {a b c : Ce} {n : Nat} (h : JC a b c) (ha : CeW a) (hb : CeW b) (sc : ShortC n c) (hn : n ≤ 1000) (e : errJ a b = 0) : CeW c := by
  obtain ⟨q1, q2, q3, q4⟩ := errJ_parts e
  refine ⟨by rw [h.key]; exact ha.key, by rw [h.cnt]; exact fitB_i64 q4, fun x hx => ?_, fun x hx => ?_⟩
  · obtain ⟨k, hk, rfl⟩ := List.getElem_of_mem hx
    have hk2 : k < a.is.length := by rw [← h.li]; exact hk
    rw [← wg_get hk]
    exact (h.is k hk2).w (ha.wg hk2) (hb.wg (by omega)) (by have := sc.sq k hk; omega)
  · obtain ⟨k, hk, rfl⟩ := List.getElem_of_mem hx
    have hk2 : k < a.ns.length := by rw [← h.ln]; exact hk
    rw [← rg_get hk]
    exact (h.ns k hk2).w (ha.rg hk2) (hb.rg (by omega))
theorem ce0_w : CeW ce0 := ⟨by decide, by unfold I64; decide, fun x hx => by simp [ce0] at hx, fun x hx => by simp [ce0] at hx⟩
end Go.Proofs.YtigikgphipebiaaGreatDoor
