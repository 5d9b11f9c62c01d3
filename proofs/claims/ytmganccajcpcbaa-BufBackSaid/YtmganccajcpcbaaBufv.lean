/- What was written is read. -/
import Derived.Test.YtmganccajcpcbaaBufu
import Derived.Test.YtmganccajcpcbaaBuft
namespace Go.Proofs.Ytmganccajcpcbaa
set_option maxRecDepth 100000
open Go.RowKit
set_option linter.unusedVariables false
theorem strB_ofS (s : ByteArray) : strB (ofS s) = s := by
  apply ByteArray.ext
  unfold strB ofS
  simp only [List.map_map]
  have e : (fun x : Int => UInt8.ofNat x.toNat) ∘ (fun c : UInt8 => (c.toNat : Int)) = id := by
    funext c
    simp
  rw [e, List.map_id]
theorem encA_len (d u i : Int) (k : Nat) (t : ByteArray) (hu : 0 ≤ u ∧ u < 18446744073709551616) (hi : -9223372036854775808 ≤ i ∧ i ≤ 9223372036854775807) (ht : t.size ≤ 200) : (encA d u i k t).length ≤ 402 := by
  unfold encA
  split
  · have := (encU_len (x := u.toNat) (by omega)).2; omega
  · split
    · have := (encI_len hi.1 hi.2).2; omega
    · split
      · unfold encF; rw [bigN_len]; decide
      · split
        · unfold encT
          have := encP_len (ofS t)
          rw [ofS_len] at this
          rw [List.length_append]; simp; omega
        · have := (encU_len (x := t.size) (by omega)).2
          rw [List.length_append, ofS_len]; omega
theorem encA_bt (d u i : Int) (k : Nat) (t : ByteArray) (hu : 0 ≤ u ∧ u < 18446744073709551616) (hi : -9223372036854775808 ≤ i ∧ i ≤ 9223372036854775807) (ht : t.size ≤ 200) : Bt (encA d u i k t) := by
  unfold encA
  split
  · exact encU_bt (by omega)
  · split
    · exact encI_bt hi.1 hi.2
    · split
      · exact bigN_bt _ _
      · split
        · exact encT_bt (ofS_bt t)
        · exact (encU_bt (by omega)).append (ofS_bt t)
/-- The number that a thing is read back as. -/
def toldA (d u : Int) (f : Nat) : Int := if d = 2 then keyI f else u
theorem bN_enc {t : ByteArray} (ht : t.size ≤ 200) (more : List Int) : bN 200 (encU t.size ++ (ofS t ++ more)) = (ofS t, (encU t.size).length + t.size, 0) := by
  have hg := getU_enc (x := t.size) (by omega) (ofS t ++ more)
  unfold bN
  rw [hg]
  simp only [ne_eq, not_true, if_false]
  rw [if_neg (by omega), if_neg (by simp [ofS_len]; omega)]
  rw [List.drop_left, Int.toNat_natCast]
  congr 1
  rw [← ofS_len t, List.take_left]
theorem rdB_any (w : World) (N : Nat) (b : List Int) (p : Nat) (d u i : Int) (f k : Nat) (t : ByteArray) (more : List Int) (hd : 0 ≤ d ∧ d ≤ 4) (hu : 0 ≤ u ∧ u < 18446744073709551616) (hi : -9223372036854775808 ≤ i ∧ i ≤ 9223372036854775807) (hf : W64 f) (hk : keyI f = (k : Int)) (ht : t.size ≤ 200)
    (h : InAt w N b p 0) (hb : b.drop p = encA d u i k t ++ more) :
    Calls Try.prog 10 #[.pointer (some ⟨N, 0, none⟩), askV d u i f t 200, gotV (toldA d u f) i t 1 0] w (RdP w N b p (encA d u i k t).length 0) := by
  unfold encA toldA at *
  by_cases h0 : d = 0
  · subst h0
    rw [if_pos rfl] at hb ⊢
    rw [if_neg (by decide)]
    have hg := getU_enc (x := u.toNat) (by omega) more
    rw [← hb] at hg
    have hr : uN u (getU (b.drop p)) = (u, (encU u.toNat).length, 0) := by
      rw [hg, show ((u.toNat : Nat) : Int) = u by omega]
      unfold uN; rw [if_neg (by simp)]
    have := rd0_any w N b p u i 200 i 1 0 f t t h
    rw [hr] at this
    exact this
  · by_cases h1 : d = 1
    · subst h1
      rw [if_neg h0, if_pos rfl] at hb ⊢
      rw [if_neg (by decide)]
      have hg := getI_enc hi.1 hi.2 more
      rw [← hb] at hg
      have := rd1_any w N b p u i 200 u 1 0 f t t h
      rw [hg] at this
      exact this
    · by_cases h2 : d = 2
      · subst h2
        rw [if_neg h0, if_neg h1, if_pos rfl] at hb ⊢
        rw [if_pos rfl]
        have hkr := key_range hf
        have hkd := keyed_key hf
        rw [hk] at hkr hkd
        have hg := getF_enc (k := k) (by omega) hkd more
        rw [← hb] at hg
        have hl : (encF k).length = 8 := by unfold encF; rw [bigN_len]
        rw [hl]
        exact rd2_ok w N b p u i 200 (keyI f) i 1 0 f t t h (by rw [hg]) (by decide) (by rw [hg, hk])
      · by_cases h3 : d = 3
        · subst h3
          rw [if_neg h0, if_neg h1, if_neg h2, if_pos rfl] at hb ⊢
          rw [if_neg (by decide)]
          have hg := getT_enc more (ofS t) [] 0
          rw [← hb, List.nil_append, Nat.zero_add] at hg
          have hr : tN 200 (getT (b.drop p) [] 0) = (ofS t, (encT (ofS t)).length, 0) := by
            rw [hg]; unfold tN; rw [if_neg (by simp [ofS_len]; omega)]
          have := rd3_any w N b p u i 200 u i 1 0 f t h
          rw [hr, strB_ofS] at this
          exact this
        · obtain rfl : d = 4 := by omega
          rw [if_neg h0, if_neg h1, if_neg h2, if_neg h3] at hb ⊢
          rw [if_neg (by decide)]
          rw [List.append_assoc] at hb
          have hr : bN 200 (b.drop p) = (ofS t, (encU t.size).length + t.size, 0) := by rw [hb]; exact bN_enc ht more
          have := rd4_any w N b p u i 200 u i 1 0 f t 4 (by omega) (by decide) h
          rw [hr, strB_ofS] at this
          rw [List.length_append, ofS_len]
          exact this
/-- The encodings of the first k things, the last one first. -/
def encL (E : Nat → List Int) : Nat → List (List Int)
  | 0 => []
  | k + 1 => E k :: encL E k
theorem encL_part (E : Nat → List Int) (k : Nat) : ∀ n, k < n → ∃ more, catR (encL E n) = catR (encL E k) ++ (E k ++ more)
  | 0, h => by omega
  | n + 1, h => by
    by_cases hk : k = n
    · subst hk; exact ⟨[], by simp [encL, catR]⟩
    · obtain ⟨more, hm⟩ := encL_part E k n (by omega)
      exact ⟨more ++ E n, by simp [encL, catR, hm]⟩
theorem encL_len (E : Nat → List Int) {m : Nat} : ∀ n, (∀ k, k < n → (E k).length ≤ m) → (catR (encL E n)).length ≤ n * m
  | 0, _ => by simp [encL, catR]
  | n + 1, h => by
    have := encL_len E n (fun k hk => h k (by omega))
    have := h n (by omega)
    simp only [encL, catR, List.length_append]
    rw [Nat.succ_mul]; omega
theorem encL_bt (E : Nat → List Int) : ∀ n, (∀ k, k < n → Bt (E k)) → Bt (catR (encL E n))
  | 0, _ => bt_nil
  | n + 1, h => (encL_bt E n (fun k hk => h k (by omega))).append (h n (by omega))
end Go.Proofs.Ytmganccajcpcbaa
