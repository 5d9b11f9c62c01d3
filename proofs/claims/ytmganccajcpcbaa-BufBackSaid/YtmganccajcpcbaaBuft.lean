/- Both sides of a question: what the reference tells, and what a reader answers. -/
import Derived.Test.YtmganccajcpcbaaBufk
import Derived.Test.YtmganccajcpcbaaBufl
import Derived.Test.YtmganccajcpcbaaBufi
namespace Go.Proofs.Ytmganccajcpcbaa
set_option maxRecDepth 100000
open Go.RowKit
set_option linter.unusedVariables false
/-- What a question finds in bytes: number, signed number, text, how many bytes, error. -/
def gotA (d u m : Int) (b : List Int) : Int × Int × ByteArray × Nat × Nat :=
  if d = 0 then ((uN u (getU b)).1, 0, ⟨#[]⟩, (uN u (getU b)).2.1, (uN u (getU b)).2.2)
  else if d = 1 then (0, (getI b).1, ⟨#[]⟩, (getI b).2.1, (getI b).2.2)
  else if d = 2 then ((fN (getF b)).1, 0, ⟨#[]⟩, (fN (getF b)).2.1, (fN (getF b)).2.2)
  else if d = 3 then (0, 0, strB (tN m (getT b [] 0)).1, (tN m (getT b [] 0)).2.1, (tN m (getT b [] 0)).2.2)
  else (0, 0, strB (bN m b).1, (bN m b).2.1, (bN m b).2.2)
theorem ref_any (w : World) (v : Value) (b : List Int) (d u i m : Int) (f : Nat) (t : ByteArray) (hd : 0 ≤ d ∧ d ≤ 4) (hm : m ≤ 9223372036854775807) (hv : Ints .u8 w v b) (hb : Bt b) (hl : b.length ≤ 20000) :
    Calls Try.prog 9 #[askV d u i f t m, v] w (RefP (gotA d u m b).1 (gotA d u m b).2.1 (gotA d u m b).2.2.1 (gotA d u m b).2.2.2.1 (gotA d u m b).2.2.2.2 w) := by
  unfold gotA
  by_cases h0 : d = 0
  · subst h0; rw [if_pos rfl]; exact ref0_any w v b u i m f t hv hb hl
  · by_cases h1 : d = 1
    · subst h1; rw [if_neg h0, if_pos rfl]; exact ref1_any w v b u i m f t hv hb hl
    · by_cases h2 : d = 2
      · subst h2; rw [if_neg h0, if_neg h1, if_pos rfl]; exact ref2_any w v b u i m f t hv hb hl
      · by_cases h3 : d = 3
        · subst h3; rw [if_neg h0, if_neg h1, if_neg h2, if_pos rfl]; exact ref3_any w v b u i m f t hv hb hl
        · rw [if_neg h0, if_neg h1, if_neg h2, if_neg h3]; exact ref4_any w v b d u i m f t (by omega) hm hv hb hl
theorem rdA_any (w : World) (N : Nat) (b : List Int) (p : Nat) (d u i m : Int) (f : Nat) (t : ByteArray) (hd : 0 ≤ d ∧ d ≤ 4) (hm : m ≤ 9223372036854775807) (h : InAt w N b p 0) :
    Calls Try.prog 10 #[.pointer (some ⟨N, 0, none⟩), askV d u i f t m, gotV (gotA d u m (b.drop p)).1 (gotA d u m (b.drop p)).2.1 (gotA d u m (b.drop p)).2.2.1 (gotA d u m (b.drop p)).2.2.2.1 (gotA d u m (b.drop p)).2.2.2.2] w
      (RdP w N b p (gotA d u m (b.drop p)).2.2.2.1 (gotA d u m (b.drop p)).2.2.2.2) := by
  unfold gotA
  by_cases h0 : d = 0
  · subst h0; rw [if_pos rfl]; exact rd0_any w N b p u i m _ _ _ f t _ h
  · by_cases h1 : d = 1
    · subst h1; rw [if_neg h0, if_pos rfl]; exact rd1_any w N b p u i m _ _ _ f t _ h
    · by_cases h2 : d = 2
      · subst h2; rw [if_neg h0, if_neg h1, if_pos rfl]
        by_cases he : (getF (b.drop p)).2 = 0
        · have e1 : fN (getF (b.drop p)) = ((getF (b.drop p)).1, 8, 0) := by unfold fN; rw [if_pos he]
          rw [e1]
          exact rd2_ok w N b p u i m _ _ 8 _ f t _ h he (by omega) rfl
        · have e1 : fN (getF (b.drop p)) = (0, 0, (getF (b.drop p)).2) := by unfold fN; rw [if_neg he]
          rw [e1]
          exact rd2_bad w N b p u i m _ _ _ f t _ h he
      · by_cases h3 : d = 3
        · subst h3; rw [if_neg h0, if_neg h1, if_neg h2, if_pos rfl]; exact rd3_any w N b p u i m _ _ _ _ f t h
        · rw [if_neg h0, if_neg h1, if_neg h2, if_neg h3]; exact rd4_any w N b p u i m _ _ _ _ f t d (by omega) hm h
theorem uN_none {most : Int} {r : Int × Nat × Nat} (h : r.2.2 ≠ 0 → r.2.1 = 0) : (uN most r).2.2 ≠ 0 → (uN most r).2.1 = 0 := by
  unfold uN; split
  · simp
  · exact h
theorem tN_none {most : Int} {r : List Int × Nat × Nat} (h : r.2.2 ≠ 0 → r.2.1 = 0) : (tN most r).2.2 ≠ 0 → (tN most r).2.1 = 0 := by
  unfold tN; split
  · simp
  · exact h
theorem bN_none {most : Int} {b : List Int} : (bN most b).2.2 ≠ 0 → (bN most b).2.1 = 0 := by
  unfold bN; split
  · simp
  · split
    · simp
    · split <;> simp
/-- A question never finds more than there is, and nothing where it fails. -/
theorem gotA_fit {b : List Int} (hb : Bt b) (d u m : Int) : (gotA d u m b).2.2.2.2 < 9 ∧ ((gotA d u m b).2.2.2.2 = 0 → (gotA d u m b).2.2.2.1 ≤ b.length) ∧ ((gotA d u m b).2.2.2.2 ≠ 0 → (gotA d u m b).2.2.2.1 = 0) := by
  unfold gotA
  split
  · have h1 := uN_fit u hb; exact ⟨h1.1, h1.2.1, uN_none (fun h => (getU_zero h).2)⟩
  · split
    · have h1 := getI_fit2 (b := b); exact ⟨h1.1, h1.2.1, fun h => (getI_zero h).2⟩
    · split
      · have h1 := fN_fit (b := b); refine ⟨h1.1, h1.2.1, ?_⟩
        unfold fN; split <;> simp
      · split
        · have h1 := tN_fit m (b := b); exact ⟨h1.1, h1.2.1, tN_none (fun h => ((getT_fit b [] 0).2.2 h).2)⟩
        · have h1 := bN_fit m hb; exact ⟨h1.1, h1.2.1, bN_none⟩
end Go.Proofs.Ytmganccajcpcbaa
