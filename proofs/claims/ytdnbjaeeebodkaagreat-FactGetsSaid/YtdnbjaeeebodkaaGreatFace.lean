/- Layer 12: the reference's reader: whole numbers and real numbers asked. -/
import Derived.Test.YtdnbjaeeebodkaaGreatSchx
import Derived.Test.YtdnbjaeeebodkaaGreatFacc
import Derived.Test.YtdnbjaeeebodkaaGreatBufl
namespace Go.Proofs.YtdnbjaeeebodkaaGreat
set_option maxRecDepth 100000
open Go.RowKit
set_option linter.unusedVariables false
/-- The key that is read, 0 behind a fault. -/
def keyK (b : List Int) (s : Nat × Nat) : Int := if s.2 = 0 then (fN (getF (b.drop s.1))).1 else 0
theorem stF_key {b : List Int} {s : Nat × Nat} (h : (stF b s).2.2 = 0) : (stF b s).1 = fromN (keyK b s) ∧ Keyed (keyK b s) ∨ s.2 ≠ 0 := by
  unfold stF keyK at *
  by_cases h0 : s.2 = 0
  · left
    rw [if_pos h0] at h ⊢
    rw [if_pos h0]
    simp only at h ⊢
    rw [if_pos h]
    unfold fN
    rw [if_pos h]
    refine ⟨rfl, ?_⟩
    unfold getF at h ⊢
    by_cases h8 : 8 ≤ (b.drop s.1).length
    · rw [if_pos h8] at h ⊢
      by_cases hk : Keyed (fillN (b.drop s.1) 0 8)
      · rw [if_pos hk]; exact hk
      · rw [if_neg hk] at h; simp at h
    · rw [if_neg h8] at h
      split at h <;> simp at h
  · exact .inr h0
theorem askI_any (w : World) (N : Nat) (v : Value) (b : List Int) (s : Nat × Nat) (u i m : Int) (f : Nat) (t : ByteArray) (h : R3 w N v s.1 s.2) (hv : Ints .u8 w v b) (hb : Bt b) (hl : b.length ≤ 20000) (hs : OkSt b s) :
    Calls Tryz.prog 20 #[.pointer (some ⟨N, 0, none⟩), askV 1 u i f t m] w fun r w' => (∃ n e : Nat, r = .returned (gotV 0 (stI b s).1 ⟨#[]⟩ n e)) ∧ R3 w' N v (stI b s).2.1 (stI b s).2.2 ∧ w.grownBy w' (some N) := by
  obtain ⟨p, e⟩ := s
  have hp : p ≤ b.length := hs.1
  simp only at h
  unfold stI
  by_cases he : e = 0
  · subst he
    rw [if_pos rfl]
    simp only
    have hn := getI_fit (b := b.drop p)
    rw [List.length_drop] at hn
    have hz : ∀ h : (getI (b.drop p)).2.2 ≠ 0, (getI (b.drop p)).2.1 = 0 := fun h => (getI_zero h).2
    have hle : (getI (b.drop p)).2.1 ≤ 20000 := by
      by_cases q : (getI (b.drop p)).2.2 = 0
      · have := hn.1 q; omega
      · rw [hz q]; omega
    refine (ask_yes w N v b p 1 u i m f t 0 (getI (b.drop p)).1 ⟨#[]⟩ (getI (b.drop p)).2.1 (getI (b.drop p)).2.2 h hv hp hl hle
      (fun w1 v2 hb1 hi => ref1_any w1 v2 (b.drop p) u i m f t hi (hb.drop p) (by rw [List.length_drop]; omega))).mono ?_
    rintro r w1 ⟨rfl, hr, hg⟩
    refine ⟨⟨_, _, rfl⟩, ?_, hg⟩
    split
    · exact hr
    · rename_i q; rw [hz q] at hr; exact hr
  · rw [if_neg he]
    simp only
    refine (ask_no w N v p e 1 u i m f t h he).mono ?_
    rintro r w1 ⟨rfl, hb1⟩
    exact ⟨⟨0, 0, rfl⟩, h.below hb1, grown_below hb1 _⟩
theorem askF_any (w : World) (N : Nat) (v : Value) (b : List Int) (s : Nat × Nat) (u i m : Int) (f : Nat) (t : ByteArray) (h : R3 w N v s.1 s.2) (hv : Ints .u8 w v b) (hb : Bt b) (hl : b.length ≤ 20000) (hs : OkSt b s) :
    Calls Tryz.prog 20 #[.pointer (some ⟨N, 0, none⟩), askV 2 u i f t m] w fun r w' => (∃ n e : Nat, r = .returned (gotV (keyK b s) 0 ⟨#[]⟩ n e)) ∧ R3 w' N v (stF b s).2.1 (stF b s).2.2 ∧ w.grownBy w' (some N) := by
  obtain ⟨p, e⟩ := s
  have hp : p ≤ b.length := hs.1
  simp only at h
  unfold stF keyK
  by_cases he : e = 0
  · subst he
    rw [if_pos rfl, if_pos rfl]
    simp only
    have hle : (fN (getF (b.drop p))).2.1 ≤ 20000 := by unfold fN; split <;> simp
    refine (ask_yes w N v b p 2 u i m f t (fN (getF (b.drop p))).1 0 ⟨#[]⟩ (fN (getF (b.drop p))).2.1 (fN (getF (b.drop p))).2.2 h hv hp hl hle
      (fun w1 v2 hb1 hi => ref2_any w1 v2 (b.drop p) u i m f t hi (hb.drop p) (by rw [List.length_drop]; omega))).mono ?_
    rintro r w1 ⟨rfl, hr, hg⟩
    refine ⟨⟨_, _, rfl⟩, ?_, hg⟩
    unfold fN at hr
    split at hr
    · rename_i q
      rw [if_pos q, q]; exact hr
    · rename_i q
      rw [if_neg q]; exact hr
  · rw [if_neg he, if_neg he]
    simp only
    refine (ask_no w N v p e 2 u i m f t h he).mono ?_
    rintro r w1 ⟨rfl, hb1⟩
    exact ⟨⟨0, 0, rfl⟩, h.below hb1, grown_below hb1 _⟩
end Go.Proofs.YtdnbjaeeebodkaaGreat
