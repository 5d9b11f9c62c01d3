/- Frames: plain facts; bytes of the call's own; parts of a slice; bytes as a string. -/
import Derived.Test.YtacogaeciodjeaaDoorCrcd
import Derived.Laws.BytesArg
import Derived.Laws.CopyOwn
namespace Go.Proofs.YtacogaeciodjeaaDoor
set_option maxRecDepth 100000
open Go.RowKit
set_option linter.unusedVariables false
/-- A length in three bytes, the highest first. -/
def beN (n : Nat) : List Int := [((n / 65536 % 256 : Nat) : Int), ((n / 256 % 256 : Nat) : Int), ((n % 256 : Nat) : Int)]
/-- What stands in a frame ahead of its checksum. -/
def headF (b : List Int) : List Int := 181 :: (beN b.length ++ b)
def putN (b : List Int) : List Int := headF b ++ fourB (moreN 0 (headF b))
/-- The length that the first bytes tell. -/
def lenN (b : List Int) : Nat := (b.getD 1 0).toNat * 65536 + (b.getD 2 0).toNat * 256 + (b.getD 3 0).toNat
def getN (b : List Int) : List Int × Nat × Nat :=
  if 0 < b.length ∧ b.getD 0 0 ≠ 181 then ([], 0, 6) else if 60000 < lenN b then ([], 0, 6) else if b.length < 8 + lenN b then ([], 0, 5)
  else if (b.take (8 + lenN b)).drop (4 + lenN b) = fourB (moreN 0 (b.take (4 + lenN b))) then ((b.take (4 + lenN b)).drop 4, 8 + lenN b, 0) else ([], 0, 13)
theorem head_len (b : List Int) : (headF b).length = 4 + b.length := by simp [headF, beN]; omega
theorem put_len (b : List Int) : (putN b).length = 8 + b.length := by simp [putN, head_len, fourB]; omega
theorem beN_byt (n : Nat) : Byt (beN n) := fun x hx => by
  simp only [beN, List.mem_cons, List.not_mem_nil, or_false] at hx
  rcases hx with rfl | rfl | rfl <;> omega
theorem head_byt {b : List Int} (hb : Byt b) : Byt (headF b) := fun x hx => by
  rcases List.mem_cons.1 hx with rfl | hx
  · omega
  · exact bytes_append (beN_byt _) hb x hx
theorem put_byt {b : List Int} (hb : Byt b) : Byt (putN b) := bytes_append (head_byt hb) (four_bytes _)
theorem lenN_le {b : List Int} (hb : Byt b) : lenN b < 16777216 := by
  have h1 := byt_getD hb 1
  have h2 := byt_getD hb 2
  have h3 := byt_getD hb 3
  unfold lenN; omega
theorem lenN_put {b t : List Int} (hl : b.length ≤ 60000) : lenN (headF b ++ t) = b.length := by
  unfold lenN headF beN
  simp [List.getD]
  omega
theorem get_put {b more : List Int} (hl : b.length ≤ 60000) : getN (putN b ++ more) = (b, 8 + b.length, 0) := by
  have hn : lenN (putN b ++ more) = b.length := by unfold putN; rw [List.append_assoc]; exact lenN_put hl
  unfold getN
  have e0 : (putN b ++ more).getD 0 0 = 181 := rfl
  have hlen := put_len b
  have hh := head_len b
  have t8 : (putN b ++ more).take (8 + b.length) = putN b := by rw [← hlen]; simp
  have t4 : (putN b ++ more).take (4 + b.length) = headF b := by
    unfold putN; rw [List.append_assoc, ← hh]; simp
  rw [e0, hn, t8, t4, if_neg (by simp), if_neg (by omega), if_neg (by rw [List.length_append, hlen]; omega), if_pos]
  · unfold headF beN; rfl
  · unfold putN; rw [← hh]; simp
theorem beN_of {b : List Int} (hb : Byt b) : beN (lenN b) = [b.getD 1 0, b.getD 2 0, b.getD 3 0] := by
  have h1 := byt_getD hb 1
  have h2 := byt_getD hb 2
  have h3 := byt_getD hb 3
  unfold beN lenN
  simp only [List.cons.injEq, and_true]
  refine ⟨?_, ?_, ?_⟩ <;> omega
theorem head_of {b : List Int} (hb : Byt b) (h0 : b.getD 0 0 = 181) (hl : 8 + lenN b ≤ b.length) : headF ((b.take (4 + lenN b)).drop 4) = b.take (4 + lenN b) := by
  have hlen : ((b.take (4 + lenN b)).drop 4).length = lenN b := by simp; omega
  unfold headF
  rw [hlen, beN_of hb, ← h0]
  generalize lenN b = n at *
  rcases b with _ | ⟨a0, _ | ⟨a1, _ | ⟨a2, _ | ⟨a3, t⟩⟩⟩⟩ <;> simp at hl <;> try omega
  rw [show 4 + n = n + 1 + 1 + 1 + 1 by omega]
  simp [List.getD]
theorem four_split (b : List Int) (n : Nat) : b.take (8 + n) = b.take (4 + n) ++ (b.take (8 + n)).drop (4 + n) := by
  conv => lhs; rw [← List.take_append_drop (4 + n) (b.take (8 + n))]
  rw [List.take_take, Nat.min_eq_left (by omega)]
/-- What the reference compares. -/
theorem put_iff {b : List Int} (hb : Byt b) (h0 : b.getD 0 0 = 181) (hl : 8 + lenN b ≤ b.length) :
    putN ((b.take (4 + lenN b)).drop 4) = b.take (8 + lenN b) ↔ (b.take (8 + lenN b)).drop (4 + lenN b) = fourB (moreN 0 (b.take (4 + lenN b))) := by
  unfold putN
  rw [head_of hb h0 hl]
  have hs := four_split b (lenN b)
  obtain ⟨t, ht⟩ : ∃ t, (b.take (8 + lenN b)).drop (4 + lenN b) = t := ⟨_, rfl⟩
  rw [ht] at hs ⊢
  rw [hs, List.append_cancel_left_eq]
  exact eq_comm
theorem getN_fit {b : List Int} (hb : Byt b) : ((getN b).2.2 = 0 → (getN b).2.1 ≤ b.length ∧ (getN b).2.1 = 8 + (getN b).1.length ∧ (getN b).1.length ≤ 60000) ∧ ((getN b).2.2 ≠ 0 → (getN b).1 = [] ∧ (getN b).2.1 = 0) ∧ (getN b).2.2 ≤ 13 ∧ (getN b).1.length ≤ b.length := by
  unfold getN
  repeat' split
  all_goals (first | (simp; done) | (simp; omega))
theorem getN_byt {b : List Int} (hb : Byt b) : Byt (getN b).1 := by
  unfold getN
  repeat' split
  all_goals (first | exact byt0 | exact byt_drop (byt_take hb _) _)
/-- The checksum of what ends in its own checksum. -/
def sealN : Nat := 4294967295 - passN 4 4294967295
theorem xor_not {r : Nat} (h : r < 4294967296) : r ^^^ (4294967295 - r) = 4294967295 := by
  rw [not_eq h, ← Nat.xor_assoc, Nat.xor_self, Nat.zero_xor]
theorem seal_iff {p t : List Int} (hp : Byt p) (ht : Byt t) (hl : t.length = 4) : moreN 0 (p ++ t) = sealN ↔ t = fourB (moreN 0 p) := by
  have hr := regF_lt hp (r := 4294967295 - 0) (by omega)
  have hm : moreN 0 p < 4294967296 := more_lt 0 p
  have key : regF (regF (4294967295 - 0) p) (fourB (moreN 0 p)) = passN 4 4294967295 := by
    rw [regF_word, four_word hm]
    show passN 4 _ = _
    unfold moreN
    rw [xor_not hr]
  have hs : passN 4 4294967295 < 4294967296 := pass_lt 4 (by decide)
  have k2 := regF_lt ht hr
  unfold sealN
  constructor
  · intro h
    unfold moreN at h
    rw [regF_append] at h
    refine regF_inj ht (four_bytes _) (by rw [hl]; rfl) (by omega) hr ?_
    rw [key]; omega
  · intro h
    rw [h]
    show 4294967295 - regF (4294967295 - 0) (p ++ fourB (moreN 0 p)) = _
    rw [regF_append, key]
theorem put_seal {b : List Int} (hb : Byt b) : moreN 0 (putN b) = sealN := (seal_iff (head_byt hb) (four_bytes _) rfl).2 rfl
/-- Some bytes are changed. -/
def xorAt (z x : List Int) (A : Nat) : Nat → List Int
  | 0 => z
  | k + 1 => (xorAt z x A k).set (A + k) (((z.getD (A + k) 0).toNat ^^^ (x.getD k 0).toNat : Nat) : Int)
theorem xorAt_len (z x : List Int) (A k : Nat) : (xorAt z x A k).length = z.length := by
  induction k with
  | zero => rfl
  | succ k ih => rw [xorAt, List.length_set, ih]
theorem xorAt_get (z x : List Int) (A k j : Nat) (hj : j < z.length) : (xorAt z x A k).getD j 0 = if A ≤ j ∧ j < A + k then (((z.getD j 0).toNat ^^^ (x.getD (j - A) 0).toNat : Nat) : Int) else z.getD j 0 := by
  induction k with
  | zero => rw [if_neg (by omega)]; rfl
  | succ k ih =>
    have hl := xorAt_len z x A k
    by_cases h : j = A + k
    · subst h
      rw [if_pos (by omega), xorAt, show A + k - A = k by omega]
      simp [List.getD, hl, hj]
    · have e : (xorAt z x A (k + 1)).getD j 0 = (xorAt z x A k).getD j 0 := by
        rw [xorAt]; simp only [List.getD]; rw [List.getElem?_set_ne (by omega)]
      rw [e, ih]
      by_cases h2 : A ≤ j ∧ j < A + k
      · rw [if_pos h2, if_pos (by omega)]
      · rw [if_neg h2, if_neg (by omega)]
theorem ext_getD {a b : List Int} (hl : a.length = b.length) (h : ∀ j, j < a.length → a.getD j 0 = b.getD j 0) : a = b := by
  apply List.ext_getElem hl
  intro j h1 h2
  have := h j h1
  simpa [List.getD, h1, h2] using this
theorem xorAt_take (z x : List Int) (A k : Nat) : (xorAt z x A k).take A = z.take A := by
  apply ext_getD (by simp [xorAt_len])
  intro j hj
  have hj2 : j < A ∧ j < z.length := by rw [List.length_take, xorAt_len] at hj; omega
  have e1 : ((xorAt z x A k).take A).getD j 0 = (xorAt z x A k).getD j 0 := by simp [List.getD, hj2.1]
  have e2 : (z.take A).getD j 0 = z.getD j 0 := by simp [List.getD, hj2.1]
  rw [e1, e2, xorAt_get z x A k j hj2.2, if_neg (by omega)]
theorem xorAt_drop (z x : List Int) (A k : Nat) : (xorAt z x A k).drop (A + k) = z.drop (A + k) := by
  apply ext_getD (by simp [xorAt_len])
  intro j hj
  have hj2 : A + k + j < z.length := by rw [List.length_drop, xorAt_len] at hj; omega
  have e1 : ((xorAt z x A k).drop (A + k)).getD j 0 = (xorAt z x A k).getD (A + k + j) 0 := by simp [List.getD]
  have e2 : (z.drop (A + k)).getD j 0 = z.getD (A + k + j) 0 := by simp [List.getD]
  rw [e1, e2, xorAt_get z x A k _ hj2, if_neg (by omega)]
theorem xorAt_byt {z x : List Int} (hz : Byt z) (hx : Byt x) (A k : Nat) : Byt (xorAt z x A k) := by
  intro y hy
  obtain ⟨j, hj, rfl⟩ := List.mem_iff_getElem.1 hy
  have hj2 : j < z.length := by rw [xorAt_len] at hj; exact hj
  have e : (xorAt z x A k)[j] = (xorAt z x A k).getD j 0 := by simp [List.getD, hj]
  rw [e, xorAt_get z x A k j hj2]
  have h1 := byt_getD hz j
  have h2 := byt_getD hx (j - A)
  split
  · have : (z.getD j 0).toNat ^^^ (x.getD (j - A) 0).toNat < 2 ^ 8 := Nat.xor_lt_two_pow (by omega) (by omega)
    omega
  · exact h1
/-- Are the first k of these 0? -/
def zeroB (x : List Int) : Nat → Bool
  | 0 => true
  | k + 1 => zeroB x k && (x.getD k 0 == 0)
theorem zeroB_iff (x : List Int) (k : Nat) : zeroB x k = true ↔ ∀ j, j < k → x.getD j 0 = 0 := by
  induction k with
  | zero => simp [zeroB]
  | succ k ih =>
    rw [zeroB, Bool.and_eq_true, ih, beq_iff_eq]
    constructor
    · rintro ⟨h1, h2⟩ j hj
      by_cases h : j = k
      · rw [h]; exact h2
      · exact h1 j (by omega)
    · exact fun h => ⟨fun j hj => h j (by omega), h k (by omega)⟩
theorem xorAt_same {z x : List Int} (hz : Byt z) {A k : Nat} (h : ∀ j, j < k → x.getD j 0 = 0) : xorAt z x A k = z := by
  apply ext_getD (xorAt_len z x A k)
  intro j hj
  have hj2 : j < z.length := by rw [xorAt_len] at hj; exact hj
  rw [xorAt_get z x A k j hj2]
  have h1 := byt_getD hz j
  split
  · rw [h (j - A) (by omega), Int.toNat_zero, Nat.xor_zero]; omega
  · rfl
theorem cut3 (z : List Int) (A k : Nat) : z = z.take A ++ (z.drop A).take k ++ z.drop (A + k) := by
  rw [← List.drop_drop, List.append_assoc, List.take_append_drop, List.take_append_drop]
theorem xor_self_zero {a b : Nat} (h : a = a ^^^ b) : b = 0 := by
  have h2 : a ^^^ a = a ^^^ (a ^^^ b) := by rw [← h]
  rw [← Nat.xor_assoc, Nat.xor_self, Nat.zero_xor] at h2
  exact h2.symm
theorem xorAt_mid {z x : List Int} (hz : Byt z) (hx : Byt x) {A k : Nat} (hA : A + k ≤ z.length) : (z.drop A).take k = ((xorAt z x A k).drop A).take k ↔ zeroB x k = true := by
  rw [zeroB_iff]
  constructor
  · intro h j hj
    have e1 : ((z.drop A).take k).getD j 0 = z.getD (A + j) 0 := by simp [List.getD, hj]
    have e2 : (((xorAt z x A k).drop A).take k).getD j 0 = (xorAt z x A k).getD (A + j) 0 := by simp [List.getD, hj]
    rw [h, e2, xorAt_get z x A k _ (by omega), if_pos (by omega), show A + j - A = j by omega] at e1
    have h1 := byt_getD hz (A + j)
    have h2 := byt_getD hx j
    have := xor_self_zero (a := (z.getD (A + j) 0).toNat) (b := (x.getD j 0).toNat) (by omega)
    omega
  · intro h
    rw [xorAt_same hz h]
theorem bursts_eq {z x : List Int} (hz : Byt z) (hx : Byt x) {A k : Nat} (hA : A + k ≤ z.length) (hk : k ≤ 4) : moreN 0 z = moreN 0 (xorAt z x A k) ↔ zeroB x k = true := by
  rw [← xorAt_mid hz hx hA]
  have h := burst_iff (p := z.take A) (a := (z.drop A).take k) (b := ((xorAt z x A k).drop A).take k) (q := z.drop (A + k)) (byt_take hz A) (byt_take (byt_drop hz A) k) (byt_take (byt_drop (xorAt_byt hz hx A k) A) k) (byt_drop hz _)
    (by simp [xorAt_len]) (by rw [List.length_take]; omega)
  have e2 : xorAt z x A k = z.take A ++ ((xorAt z x A k).drop A).take k ++ z.drop (A + k) := by
    conv => lhs; rw [cut3 (xorAt z x A k) A k]
    rw [xorAt_take, xorAt_drop]
  rw [← cut3 z A k, ← e2] at h
  exact h
theorem lenN_eq {a b : List Int} (h : ∀ j, j < 4 → a.getD j 0 = b.getD j 0) : lenN a = lenN b := by
  unfold lenN; rw [h 1 (by omega), h 2 (by omega), h 3 (by omega)]
/-- A changed frame holds no body. -/
theorem finds_eq {b x : List Int} (hb : Byt b) (hx : Byt x) (hl : b.length ≤ 60000) {A k : Nat} (h4 : 4 ≤ A) (hA : A + k ≤ 8 + b.length) (hk : k ≤ 4) :
    getN (xorAt (putN b) x A k) = if zeroB x k = true then (b, 8 + b.length, 0) else ([], 0, 13) := by
  have hlen := put_len b
  split
  · rename_i h
    rw [xorAt_same (put_byt hb) ((zeroB_iff x k).1 h)]
    have := get_put (b := b) (more := []) hl
    rwa [List.append_nil] at this
  · rename_i h
    have hz := put_byt hb
    have hbz := xorAt_byt hz hx A k
    have hne := mt (bursts_eq hz hx (by rw [hlen]; exact hA) hk).1 h
    have hlz := xorAt_len (putN b) x A k
    have e4 : ∀ j, j < 4 → (xorAt (putN b) x A k).getD j 0 = (putN b).getD j 0 := fun j hj => by
      rw [xorAt_get _ _ _ _ _ (by omega), if_neg (by omega)]
    have hn : lenN (xorAt (putN b) x A k) = b.length := (lenN_eq e4).trans (lenN_put hl)
    have e0 := e4 0 (by omega)
    generalize xorAt (putN b) x A k = z at *
    unfold getN
    rw [hn, e0, if_neg (by rw [show (putN b).getD 0 0 = 181 from rfl]; simp), if_neg (by omega), if_neg (by omega), if_neg]
    intro he
    apply hne
    rw [put_seal hb]
    have hz8 : z.take (8 + b.length) = z := List.take_of_length_le (by omega)
    have := (seal_iff (p := z.take (4 + b.length)) (t := (z.take (8 + b.length)).drop (4 + b.length)) (byt_take hbz _) (byt_drop (byt_take hbz _) _) (by rw [hz8]; simp; omega)).2 he
    rw [← four_split, hz8] at this
    exact this.symm
/-- All frames; so many bytes at most are looked at. -/
def allF : Nat → List Int → List (List Int) × Nat × Nat
  | 0, _ => ([], 0, 0)
  | f + 1, b => if b = [] then ([], 0, 0) else if (getN b).2.2 = 0 then ((getN b).1 :: (allF f (b.drop (getN b).2.1)).1, (getN b).2.1 + (allF f (b.drop (getN b).2.1)).2.1, (allF f (b.drop (getN b).2.1)).2.2) else ([], 0, (getN b).2.2)
/-- Bytes of the call's own. -/
abbrev BOwn (w : World) (B : Nat) (v : Value) (l : List Int) : Prop := w.ownsRow B 5 1 v l.length (l.map (Value.int .u8))
def BytesP (w : World) (l : List Int) (e : Ending) (w' : World) : Prop := (∃ v, e = .returned v ∧ BOwn w' w.heap.size v l) ∧ Below w.heap.size w w'
theorem own_slice3 {w : World} {B E : Nat} {v : Value} {n : Nat} {xs : List Value} (h : w.ownsRow B E 1 v n xs) : ∃ a l c, v = .slice a l c := by
  obtain ⟨a, c, e⟩ := own_slice h
  exact ⟨a, n, c, e⟩
theorem own_mono {w : World} {B B' E : Nat} {v : Value} {n : Nat} {xs : List Value} (h : w.ownsRow B E 1 v n xs) (hb : B' ≤ B) : w.ownsRow B' E 1 v n xs := by
  refine ⟨h.1, ?_⟩
  rcases h.2 with h0 | ⟨g, cap, cur, h1, h2, h3⟩
  · exact .inl h0
  · exact .inr ⟨g, cap, cur, h1, Nat.le_trans hb h2, h3⟩
theorem own_form {w : World} {B : Nat} {v : Value} {l : List Int} (h : BOwn w B v l) (hn : 0 < l.length) : ∃ g cap, v = .slice (some ⟨g, 0, none⟩) l.length cap ∧ B ≤ g ∧ g < w.heap.size := by
  rcases h.2 with ⟨_, h0⟩ | ⟨g, cap, cur, hv, hb, hg, _⟩
  · omega
  · exact ⟨g, cap, hv, hb, (Array.getElem?_eq_some_iff.1 hg).1⟩
theorem own_get {w : World} {B g cap n : Nat} {l : List Int} (h : w.ownsRow B 5 1 (.slice (some ⟨g, 0, none⟩) n cap) n (l.map (Value.int .u8))) {j : Nat} (hj : j < l.length) :
    w.cell? ⟨g, j, none⟩ = some (.int .u8 (l.getD j 0)) ∧ w.frozen? ⟨g, j, none⟩ = false := by
  have h1 := h.1
  rw [List.length_map, Nat.mul_one] at h1
  refine ⟨?_, World.ownsRow.frozenAt h j⟩
  rw [World.ownsRow.cellAt h j (by omega), List.getElem?_map, List.getElem?_eq_getElem hj, List.getD, List.getElem?_eq_getElem hj]
  rfl
theorem own0 (w : World) (B : Nat) : BOwn w B (.slice none 0 0) [] := ⟨by simp, .inl ⟨rfl, rfl⟩⟩
theorem lit_below {w wr w1 : World} {o : Obj} (hb : Below w.heap.size w wr) (hg : (wr.alloc o).grownBy w1 (some wr.heap.size)) : Below w.heap.size w w1 :=
  (hb.alloc hb.size o).grown hg (by have := hb.size; simp; omega) (fun k hk => by have e : wr.heap.size = k := Option.some.inj hk; have := hb.size; omega)
theorem own_grown {B : Nat} {w wr w1 : World} {o : Value} {l : List Int} {ob : Obj} (hB : B ≤ wr.heap.size) (hnx : Below B w wr) (hown : BOwn wr B o l) (hg : (wr.alloc ob).grownBy w1 o.ownBlock) : Below B w w1 :=
  (hnx.alloc hB ob).grown hg (by simp; omega) (fun k hk => (hown.lt k hk).1)
theorem own_grown0 {B : Nat} {w wr w1 : World} {o : Value} {l : List Int} (hB : B ≤ wr.heap.size) (hnx : Below B w wr) (hown : BOwn wr B o l) (hg : wr.grownBy w1 o.ownBlock) : Below B w w1 :=
  hnx.grown hg hB (fun k hk => (hown.lt k hk).1)
/-- A part of a slice. -/
theorem cut_ints {w : World} {a : Option Addr} {cap : Nat} {b : List Int} (hv : Ints .u8 w (.slice a b.length cap) b) {k h : Nat} (hk : k ≤ h) (hh : h ≤ b.length) :
    Ints .u8 w (.slice (if cap = k then a else a.map (·.add (k * 1))) (h - k) (cap - k)) ((b.take h).drop k) := by
  obtain ⟨a', cap', e, hc, ha⟩ := hv
  simp only [Value.slice.injEq, true_and] at e
  obtain ⟨rfl, rfl⟩ := e
  have hl : ((b.take h).drop k).length = h - k := by simp; omega
  by_cases h0 : h = k
  · subst h0
    refine ⟨_, _, by rw [hl], by rw [hl]; omega, .inl ?_⟩
    exact List.length_eq_zero_iff.1 (by rw [hl]; omega)
  · rcases ha with h' | ⟨bb, off, rfl, hbl, hcell⟩
    · subst h'; simp at hh; omega
    · rw [if_neg (by omega)]
      refine ⟨some ⟨bb, off + k, none⟩, cap - k, ?_, by rw [hl]; omega, .inr ⟨bb, off + k, rfl, hbl, fun i hi => ?_⟩⟩
      · rw [hl, Nat.mul_one]
        by_cases k0 : k = 0
        · subst k0; simp [Addr.add]
        · simp [Addr.add, k0]
      · rw [hl] at hi
        have := hcell (k + i) (by omega)
        rw [show off + k + i = off + (k + i) by omega, this]
        congr 2
        simp [List.getD, show k + i < b.length by omega, show k + i < h by omega, List.getElem?_drop]
theorem drop_as {b : List Int} (k : Nat) : (b.take b.length).drop k = b.drop k := by rw [List.take_length]
theorem run_from {w : World} {a : Option Addr} {cap l k : Nat} (hk : k ≤ l) (hs : ∃ i, Tryd.prog.info? 5 = some i ∧ i.size = 1) : (Instr.slice 22 (.slice a l cap) (some (.int .i64 k)) none none).run Tryd.prog w = .ok (.slice (if cap = k then a else a.map (·.add (k * 1))) (l - k) (cap - k)) w := by
  obtain ⟨i, hi, hs⟩ := hs
  simp [Instr.slice, run_underlying Tryd.underlying22, Instr.sliceBounds, Instr.sliceBound, asIntOf, sizeOf, typeInfo, hi, hs, hk, go_sem]
theorem run_part {w : World} {a : Option Addr} {cap l k h : Nat} (hk : k ≤ h) (hh : h ≤ cap) (hs : ∃ i, Tryd.prog.info? 5 = some i ∧ i.size = 1) : (Instr.slice 22 (.slice a l cap) (some (.int .i64 k)) (some (.int .i64 h)) none).run Tryd.prog w = .ok (.slice (if cap = k then a else a.map (·.add (k * 1))) (h - k) (cap - k)) w := by
  obtain ⟨i, hi, hs⟩ := hs
  simp [Instr.slice, run_underlying Tryd.underlying22, Instr.sliceBounds, Instr.sliceBound, asIntOf, sizeOf, typeInfo, hi, hs, hk, hh, go_sem]
theorem run_upto {w : World} {a : Option Addr} {cap l h : Nat} (hh : h ≤ cap) (hs : ∃ i, Tryd.prog.info? 5 = some i ∧ i.size = 1) : (Instr.slice 22 (.slice a l cap) none (some (.int .i64 h)) none).run Tryd.prog w = .ok (.slice a h cap) w := by
  obtain ⟨i, hi, hs⟩ := hs
  simp [Instr.slice, run_underlying Tryd.underlying22, Instr.sliceBounds, Instr.sliceBound, asIntOf, sizeOf, typeInfo, hi, hh, go_sem]
theorem size1 : ∃ i, Tryd.prog.info? 5 = some i ∧ i.size = 1 := by
  obtain ⟨i0, hi, hz0, hz1, hz2⟩ := info_parts Tryd.infoU8
  exact ⟨i0, hi, hz1⟩
theorem ints_cap {w : World} {a : Option Addr} {cap l : Nat} {b : List Int} (hv : Ints .u8 w (.slice a l cap) b) : b.length = l ∧ b.length ≤ cap := by
  obtain ⟨a', cap', e, hc, -⟩ := hv
  simp only [Value.slice.injEq] at e
  obtain ⟨rfl, rfl, rfl⟩ := e
  exact ⟨rfl, hc⟩
theorem tail_any {w : World} {a : Option Addr} {cap k : Nat} {b : List Int} (hv : Ints .u8 w (.slice a b.length cap) b) (hk : k ≤ b.length) :
    ∃ u c, (∀ w', (Instr.slice 22 (.slice a b.length cap) (some (.int .i64 k)) none none).run Tryd.prog w' = .ok (.slice u (b.length - k) c) w') ∧ Ints .u8 w (.slice u (b.length - k) c) (b.drop k) :=
  ⟨_, _, fun w' => run_from hk size1, by have := cut_ints hv hk (Nat.le_refl _); rwa [drop_as] at this⟩
theorem part_any {w : World} {a : Option Addr} {cap k h : Nat} {b : List Int} (hv : Ints .u8 w (.slice a b.length cap) b) (hk : k ≤ h) (hh : h ≤ b.length) :
    ∃ u c, (∀ w', (Instr.slice 22 (.slice a b.length cap) (some (.int .i64 k)) (some (.int .i64 h)) none).run Tryd.prog w' = .ok (.slice u (h - k) c) w') ∧ Ints .u8 w (.slice u (h - k) c) ((b.take h).drop k) :=
  ⟨_, _, fun w' => run_part hk (by have := (ints_cap hv).2; omega) size1, cut_ints hv hk hh⟩
theorem upto_any {w : World} {a : Option Addr} {cap h : Nat} {b : List Int} (hv : Ints .u8 w (.slice a b.length cap) b) (hh : h ≤ b.length) :
    (∀ w', (Instr.slice 22 (.slice a b.length cap) none (some (.int .i64 h)) none).run Tryd.prog w' = .ok (.slice a h cap) w') ∧ Ints .u8 w (.slice a h cap) (b.take h) :=
  ⟨fun w' => run_upto (by have := (ints_cap hv).2; omega) size1, hv.take hh⟩
def strB (l : List Int) : ByteArray := ⟨(l.map fun x => UInt8.ofNat x.toNat).toArray⟩
theorem conv_ints {w : World} {v : Value} {l : List Int} (h : Ints .u8 w v l) (hb : Byt l) : (convert 22 9 v).run Tryd.prog w = .ok (.string (strB l)) w := by
  obtain ⟨a, cap, rfl, -, h0 | ⟨b, off, rfl, hbl, hcell⟩⟩ := h
  · subst h0
    show (convert 22 9 (.slice a 0 cap)).run Tryd.prog w = _
    rw [run_convert_bytes_string w 22 9 5 _ 0 cap Tryd.underlying22 Tryd.underlying5 Tryd.underlying9]
    cases a <;> simp [Conv.bytesToString, loadCells]
    all_goals rfl
  have hlen : (l.map fun x => UInt8.ofNat x.toNat).length = l.length := by simp
  have := run_convert_bytes_back (P := Tryd.prog) w 22 9 5 ⟨b, off, none⟩ cap (l.map fun x => UInt8.ofNat x.toNat) Tryd.underlying22 Tryd.underlying5 Tryd.underlying9 (fun j hj => by
    have hj2 : j < l.length := by simpa using hj
    have hc := hcell j hj2
    have hm := hb _ (List.getElem_mem hj2)
    have e : l.getD j 0 = (((l.map fun x => UInt8.ofNat x.toNat)[j]).toNat : Int) := by
      rw [List.getElem_map, UInt8.toNat_ofNat_of_lt' (by show _ < 256; omega), List.getD, List.getElem?_eq_getElem hj2]
      show l[j] = _
      omega
    rw [e] at hc
    by_cases h0 : j = 0
    · subst h0; simpa [Addr.add] using hc
    · simpa [Addr.add, h0] using hc)
  rw [hlen] at this
  exact this
theorem strB_list (l : List Int) : (strB l).toList = l.map fun x => UInt8.ofNat x.toNat := by rw [ByteArray.toList_eq]; simp [strB]
theorem strB_inj {a b : List Int} (ha : Byt a) (hb : Byt b) (h : strB a = strB b) : a = b := by
  have h2 : a.map (fun x => UInt8.ofNat x.toNat) = b.map (fun x => UInt8.ofNat x.toNat) := by rw [← strB_list, ← strB_list, h]
  have hl : a.length = b.length := by have := congrArg List.length h2; simpa using this
  apply List.ext_getElem hl
  intro i h1 h3
  have e := List.getElem_of_eq h2 (by simpa using h1)
  simp only [List.getElem_map] at e
  have e2 := congrArg UInt8.toNat e
  have k1 := ha _ (List.getElem_mem h1)
  have k2 := hb _ (List.getElem_mem h3)
  rw [UInt8.toNat_ofNat_of_lt' (by show _ < 256; omega), UInt8.toNat_ofNat_of_lt' (by show _ < 256; omega)] at e2
  omega
theorem strB_beq {a b : List Int} (ha : Byt a) (hb : Byt b) : ((strB a).toList == (strB b).toList) = decide (a = b) := by
  rw [strB_list, strB_list]
  by_cases h : a = b
  · subst h; simp
  · have h2 : a.map (fun x => UInt8.ofNat x.toNat) ≠ b.map (fun x => UInt8.ofNat x.toNat) := fun e => h (strB_inj ha hb (by
      have : (strB a).data.toList = (strB b).data.toList := by simpa [strB] using e
      exact ByteArray.ext (Array.toList_inj.1 this)))
    simp [h, h2]
theorem allF_nil (f : Nat) : allF f [] = ([], 0, 0) := by cases f <;> simp [allF]
end Go.Proofs.YtacogaeciodjeaaDoor
