/- Plain facts of CRC-32C: what shifts and bytes make of a register; nothing of the program. -/
import Derived.Test.YtacogaeciodjeaaDoorInts
import Derived.Shelf.Spec.TrailingZeros
namespace Go.Proofs.YtacogaeciodjeaaDoor
set_option maxRecDepth 100000
open Go.RowKit
set_option linter.unusedVariables false
def crcP : Nat := 2197175160
def sh1 (r : Nat) : Nat := (r / 2) ^^^ (if r % 2 = 1 then crcP else 0)
theorem div2_xor (a b : Nat) : (a ^^^ b) / 2 = a / 2 ^^^ b / 2 := by
  have := Nat.shiftRight_xor_distrib (a := a) (b := b) (i := 1)
  simpa [Nat.shiftRight_eq_div_pow] using this
theorem sh1_xor (a b : Nat) : sh1 (a ^^^ b) = sh1 a ^^^ sh1 b := by
  unfold sh1
  rw [div2_xor]
  have h : (a ^^^ b) % 2 = (a % 2 + b % 2) % 2 := by
    have h1 := Nat.testBit_xor a b 0
    simp only [Nat.testBit_zero] at h1
    rcases Nat.mod_two_eq_zero_or_one a with ha | ha <;> rcases Nat.mod_two_eq_zero_or_one b with hb | hb <;> rcases Nat.mod_two_eq_zero_or_one (a ^^^ b) with hc | hc <;> simp [ha, hb, hc] at h1 ⊢
  rcases Nat.mod_two_eq_zero_or_one a with ha | ha <;> rcases Nat.mod_two_eq_zero_or_one b with hb | hb
  · rw [h, ha, hb]; simp
  · rw [h, ha, hb]; simp [Nat.xor_assoc]
  · rw [h, ha, hb]; simp only [Nat.reduceAdd, Nat.reduceMod, if_true, Nat.zero_ne_one, if_false, Nat.xor_zero]
    rw [Nat.xor_assoc, Nat.xor_assoc, Nat.xor_comm (b / 2)]
  · rw [h, ha, hb]
    simp only [Nat.reduceAdd, Nat.reduceMod, Nat.zero_ne_one, if_true, if_false, Nat.xor_zero]
    rw [Nat.xor_assoc, Nat.xor_comm (b / 2), ← Nat.xor_assoc crcP, Nat.xor_self, Nat.zero_xor]
theorem sh1_lt {r : Nat} (h : r < 4294967296) : sh1 r < 4294967296 := by
  unfold sh1
  refine Nat.xor_lt_two_pow (n := 32) (by omega) ?_
  split <;> decide
theorem sh1_zero {r : Nat} (h : r < 4294967296) (h0 : sh1 r = 0) : r = 0 := by
  unfold sh1 at h0
  split at h0
  · have h1 : (r / 2 ^^^ crcP).testBit 31 = false := by rw [h0]; rfl
    rw [Nat.testBit_xor, Nat.testBit_lt_two_pow (i := 31) (by omega), show crcP.testBit 31 = true by decide +kernel] at h1
    simp at h1
  · rw [Nat.xor_zero] at h0; omega
theorem sh1_two (m : Nat) : sh1 (2 * m) = m := by
  unfold sh1
  rw [Nat.mul_mod_right]; simp
def sh4 (r : Nat) : Nat := sh1 (sh1 (sh1 (sh1 r)))
def sh8 (r : Nat) : Nat := sh4 (sh4 r)
def foursN : List Nat := [0x00000000, 0x105ec76f, 0x20bd8ede, 0x30e349b1,
 0x417b1dbc, 0x5125dad3, 0x61c69362, 0x7198540d,
 0x82f63b78, 0x92a8fc17, 0xa24bb5a6, 0xb21572c9,
 0xc38d26c4, 0xd3d3e1ab, 0xe330a81a, 0xf36e6f75]
theorem sh4_small : ∀ k : Nat, k < 16 → sh4 k = foursN.getD k 0 := by decide +kernel
theorem split16 (r : Nat) : r = (2 * (2 * (2 * (2 * (r / 16))))) ^^^ (r % 16) := by
  have e : 2 * (2 * (2 * (2 * (r / 16)))) = 2 ^ 4 * (r / 16) := by omega
  rw [e]
  apply Nat.eq_of_testBit_eq
  intro i
  rw [Nat.testBit_xor, show r % 16 = r % 2 ^ 4 from rfl, Nat.testBit_mod_two_pow, Nat.testBit_two_pow_mul, show r / 16 = r / 2 ^ 4 from rfl, Nat.testBit_div_two_pow]
  by_cases h : i < 4
  · simp [h, show ¬ 4 ≤ i by omega]
  · have h2 : 4 ≤ i := by omega
    simp [h, h2]
theorem sh4_xor (a b : Nat) : sh4 (a ^^^ b) = sh4 a ^^^ sh4 b := by simp only [sh4, sh1_xor]
theorem sh8_xor (a b : Nat) : sh8 (a ^^^ b) = sh8 a ^^^ sh8 b := by simp only [sh8, sh4_xor]
theorem sh4_eq (r : Nat) : r / 16 ^^^ foursN.getD (r % 16) 0 = sh4 r := by
  have h := split16 r
  have h2 := sh4_small (r % 16) (Nat.mod_lt _ (by decide))
  rw [← h2]
  conv => rhs; rw [h]
  rw [sh4_xor]
  congr 1
  simp only [sh4, sh1_two]
theorem sh4_lt {r : Nat} (h : r < 4294967296) : sh4 r < 4294967296 := sh1_lt (sh1_lt (sh1_lt (sh1_lt h)))
theorem sh8_lt {r : Nat} (h : r < 4294967296) : sh8 r < 4294967296 := sh4_lt (sh4_lt h)
theorem sh4_zero {r : Nat} (h : r < 4294967296) (h0 : sh4 r = 0) : r = 0 :=
  sh1_zero h (sh1_zero (sh1_lt h) (sh1_zero (sh1_lt (sh1_lt h)) (sh1_zero (sh1_lt (sh1_lt (sh1_lt h))) h0)))
theorem sh8_zero {r : Nat} (h : r < 4294967296) (h0 : sh8 r = 0) : r = 0 := sh4_zero h (sh4_zero (sh4_lt h) h0)
theorem sh4_16 (m : Nat) : sh4 (16 * m) = m := by
  have e : 16 * m = 2 * (2 * (2 * (2 * m))) := by omega
  rw [e]; simp only [sh4, sh1_two]
theorem sh8_256 (m : Nat) : sh8 (256 * m) = m := by
  have e : 256 * m = 16 * (16 * m) := by omega
  rw [e, sh8, sh4_16, sh4_16]
/-- The register behind these bytes. -/
def regF (r : Nat) (b : List Int) : Nat := b.foldl (fun r x => sh8 (r ^^^ x.toNat)) r
def Byt (b : List Int) : Prop := ∀ x ∈ b, 0 ≤ x ∧ x ≤ 255
theorem byte_lt {r : Nat} {x : Int} (h : r < 4294967296) (hx : 0 ≤ x ∧ x ≤ 255) : r ^^^ x.toNat < 4294967296 :=
  Nat.xor_lt_two_pow (n := 32) h (by omega)
theorem regF_lt {b : List Int} (hb : Byt b) : ∀ {r : Nat}, r < 4294967296 → regF r b < 4294967296 := by
  induction b with
  | nil => intro r h; exact h
  | cons x b ih =>
    intro r h
    exact ih (fun y hy => hb y (List.mem_cons_of_mem _ hy)) (sh8_lt (byte_lt h (hb x (List.mem_cons_self ..))))
theorem regF_append (r : Nat) (a b : List Int) : regF r (a ++ b) = regF (regF r a) b := by simp [regF, List.foldl_append]
theorem regF_snoc (r : Nat) (a : List Int) (x : Int) : regF r (a ++ [x]) = sh8 (regF r a ^^^ x.toNat) := by simp [regF, List.foldl_append]
/-- n bytes of nought. -/
def passN : Nat → Nat → Nat
  | 0, r => r
  | n + 1, r => passN n (sh8 r)
theorem pass_xor (n : Nat) : ∀ a b, passN n (a ^^^ b) = passN n a ^^^ passN n b := by
  induction n with
  | zero => intro a b; rfl
  | succ n ih => intro a b; simp only [passN, sh8_xor, ih]
theorem pass_lt (n : Nat) : ∀ {r}, r < 4294967296 → passN n r < 4294967296 := by
  induction n with
  | zero => intro r h; exact h
  | succ n ih => intro r h; exact ih (sh8_lt h)
theorem pass_zero (n : Nat) : ∀ {r}, r < 4294967296 → passN n r = 0 → r = 0 := by
  induction n with
  | zero => intro r _ h; exact h
  | succ n ih => intro r h h0; exact sh8_zero h (ih (sh8_lt h) h0)
theorem pass_add (m n : Nat) : ∀ r, passN (m + n) r = passN m (passN n r) := by
  intro r
  induction n generalizing r with
  | zero => rfl
  | succ n ih => rw [← Nat.add_assoc]; simp only [passN]; exact ih _
theorem regF_lin (b : List Int) : ∀ r s, regF (r ^^^ s) b = passN b.length r ^^^ regF s b := by
  induction b with
  | nil => intro r s; rfl
  | cons x b ih =>
    intro r s
    show regF (sh8 (r ^^^ s ^^^ x.toNat)) b = passN b.length (sh8 r) ^^^ regF (sh8 (s ^^^ x.toNat)) b
    rw [Nat.xor_assoc, sh8_xor, ih]
theorem regF_pass (b : List Int) (r : Nat) : regF r b = passN b.length r ^^^ regF 0 b := by
  have := regF_lin b r 0
  rwa [Nat.xor_zero] at this
theorem not_eq {n : Nat} (h : n < 4294967296) : 4294967295 - n = n ^^^ 4294967295 := by
  have e := BitVec.toNat_not (x := BitVec.ofNat 32 n)
  have h2 : ~~~(BitVec.ofNat 32 n) = BitVec.ofNat 32 n ^^^ BitVec.allOnes 32 := by
    ext i hi; simp [BitVec.getElem_not, -BitVec.reduceAllOnes]
  rw [h2, BitVec.toNat_xor, BitVec.toNat_ofNat, Nat.mod_eq_of_lt h] at e
  simp at e
  omega
/-- The checksum of these bytes behind a checksum. -/
def moreN (c : Nat) (b : List Int) : Nat := 4294967295 - regF (4294967295 - c) b
theorem more_lt (c : Nat) (b : List Int) : moreN c b < 4294967296 := by unfold moreN; omega
theorem more_more (c : Nat) (a b : List Int) (hc : c < 4294967296) (ha : Byt a) : moreN (moreN c a) b = moreN c (a ++ b) := by
  have h := regF_lt ha (r := 4294967295 - c) (by omega)
  unfold moreN
  rw [show 4294967295 - (4294967295 - regF (4294967295 - c) a) = regF (4294967295 - c) a by omega, regF_append]
theorem join_eq (a : Nat) (b : List Int) (ha : a < 4294967296) (hb : Byt b) : passN b.length a ^^^ moreN 0 b = moreN a b := by
  have h1 := regF_lt hb (r := 4294967295 - a) (by omega)
  have h2 := regF_lt hb (r := 4294967295 - 0) (by omega)
  unfold moreN
  rw [not_eq h1, not_eq h2, not_eq ha, regF_lin]
  rw [Nat.xor_assoc]
/-- The bytes as one word, the first one lowest. -/
def wordOf : List Int → Nat
  | [] => 0
  | x :: b => x.toNat ^^^ (256 * wordOf b)
theorem wordOf_lt {b : List Int} (hb : Byt b) : wordOf b < 2 ^ (8 * b.length) := by
  induction b with
  | nil => decide
  | cons x b ih =>
    have h1 := hb x (List.mem_cons_self ..)
    have h2 := ih (fun y hy => hb y (List.mem_cons_of_mem _ hy))
    have e : 2 ^ (8 * (x :: b).length) = 256 * 2 ^ (8 * b.length) := by
      rw [List.length_cons, Nat.mul_add, Nat.pow_add, Nat.mul_comm]
    show x.toNat ^^^ (256 * wordOf b) < _
    have h3 : 0 < 2 ^ (8 * b.length) := Nat.pos_of_ne_zero (by simp)
    refine Nat.xor_lt_two_pow ?_ ?_
    · rw [e]; omega
    · rw [e]; omega
theorem split256 (r x : Nat) (hx : x < 256) : x ^^^ (256 * r) = x + 256 * r := by
  apply Nat.eq_of_testBit_eq
  intro i
  rw [Nat.add_comm, Nat.testBit_xor, show 256 * r = 2 ^ 8 * r from rfl, Nat.testBit_two_pow_mul, Nat.testBit_two_pow_mul_add _ (show x < 2 ^ 8 from hx)]
  by_cases h : i < 8
  · simp [h, show ¬ 8 ≤ i by omega]
  · have h3 : x.testBit i = false := Nat.testBit_lt_two_pow (Nat.lt_of_lt_of_le hx (show 256 ≤ 2 ^ i from Nat.pow_le_pow_right (n := 2) (by decide) (show 8 ≤ i by omega)))
    simp [h, h3, show 8 ≤ i by omega]
theorem regF_word (b : List Int) : ∀ r, regF r b = passN b.length (r ^^^ wordOf b) := by
  induction b with
  | nil => intro r; simp [regF, passN, wordOf]
  | cons x b ih =>
    intro r
    show regF (sh8 (r ^^^ x.toNat)) b = passN b.length (sh8 (r ^^^ (x.toNat ^^^ (256 * wordOf b))))
    rw [ih, ← Nat.xor_assoc r, sh8_xor (r ^^^ x.toNat), sh8_256]
theorem wordOf_eq {a b : List Int} (ha : Byt a) (hb : Byt b) (hl : a.length = b.length) (h : wordOf a = wordOf b) : a = b := by
  induction a generalizing b with
  | nil => cases b with
    | nil => rfl
    | cons y b => simp at hl
  | cons x a ih => cases b with
    | nil => simp at hl
    | cons y b =>
      have h1 := ha x (List.mem_cons_self ..)
      have h2 := hb y (List.mem_cons_self ..)
      have h3 : x.toNat ^^^ (256 * wordOf a) = y.toNat ^^^ (256 * wordOf b) := h
      rw [split256 _ _ (by omega), split256 _ _ (by omega)] at h3
      have h4 : x = y := by omega
      rw [ih (fun y hy => ha y (List.mem_cons_of_mem _ hy)) (fun y hy => hb y (List.mem_cons_of_mem _ hy)) (by simpa using hl) (by omega), h4]
theorem pass_inj {n r s : Nat} (hr : r < 4294967296) (hs : s < 4294967296) (h : passN n r = passN n s) : r = s := by
  have h2 : passN n (r ^^^ s) = 0 := by rw [pass_xor, h, Nat.xor_self]
  have h3 := pass_zero n (Nat.xor_lt_two_pow (n := 32) hr hs) h2
  have h4 : r ^^^ s ^^^ s = s := by rw [h3, Nat.zero_xor]
  rwa [Nat.xor_assoc, Nat.xor_self, Nat.xor_zero] at h4
theorem bytes_append {a b : List Int} (ha : Byt a) (hb : Byt b) : Byt (a ++ b) := fun x hx => by
  rcases List.mem_append.1 hx with h | h
  · exact ha x h
  · exact hb x h
/-- Up to fourB bytes tell the register, and what follows does not hide it. -/
theorem regF_inj {a b : List Int} (ha : Byt a) (hb : Byt b) (hl : a.length = b.length) (h4 : a.length ≤ 4) {r : Nat} (hr : r < 4294967296) (h : regF r a = regF r b) : a = b := by
  rw [regF_word, regF_word, ← hl] at h
  have w1 : wordOf a < 4294967296 := Nat.lt_of_lt_of_le (wordOf_lt ha) (Nat.pow_le_pow_right (n := 2) (by decide) (show 8 * a.length ≤ 32 by omega))
  have w2 : wordOf b < 4294967296 := Nat.lt_of_lt_of_le (wordOf_lt hb) (Nat.pow_le_pow_right (n := 2) (by decide) (show 8 * b.length ≤ 32 by omega))
  have h2 := pass_inj (Nat.xor_lt_two_pow (n := 32) hr w1) (Nat.xor_lt_two_pow (n := 32) hr w2) h
  refine wordOf_eq ha hb hl ?_
  have h5 : r ^^^ (r ^^^ wordOf a) = r ^^^ (r ^^^ wordOf b) := by rw [h2]
  rwa [← Nat.xor_assoc, ← Nat.xor_assoc, Nat.xor_self, Nat.zero_xor, Nat.zero_xor] at h5
theorem regF_inj_start {c : List Int} {r s : Nat} (hr : r < 4294967296) (hs : s < 4294967296) (h : regF r c = regF s c) : r = s := by
  rw [regF_pass c r, regF_pass c s] at h
  refine pass_inj hr hs (n := c.length) ?_
  have h2 : passN c.length r ^^^ regF 0 c ^^^ regF 0 c = passN c.length s ^^^ regF 0 c ^^^ regF 0 c := by rw [h]
  rwa [Nat.xor_assoc, Nat.xor_assoc, Nat.xor_self, Nat.xor_zero, Nat.xor_zero] at h2
theorem burst_iff {p a b q : List Int} (hp : Byt p) (ha : Byt a) (hb : Byt b) (hq : Byt q) (hl : a.length = b.length) (h4 : a.length ≤ 4) : moreN 0 (p ++ a ++ q) = moreN 0 (p ++ b ++ q) ↔ a = b := by
  constructor
  · intro h
    have hr := regF_lt hp (r := 4294967295 - 0) (by omega)
    have k1 := regF_lt ha hr
    have k2 := regF_lt hb hr
    have e1 := regF_lt hq k1
    have e2 := regF_lt hq k2
    unfold moreN at h
    rw [regF_append, regF_append, regF_append, regF_append] at h
    have h2 : regF (regF (regF (4294967295 - 0) p) a) q = regF (regF (regF (4294967295 - 0) p) b) q := by omega
    exact regF_inj ha hb hl h4 hr (regF_inj_start k1 k2 h2)
  · intro h; rw [h]
theorem fours_top : ∀ k : Nat, k < 16 → foursN.getD k 0 / 268435456 = k ∧ foursN.getD k 0 < 4294967296 := by decide +kernel
/-- What fourB shifts make this of. -/
def un4 (s : Nat) : Nat := 16 * (s ^^^ foursN.getD (s / 268435456) 0) + s / 268435456
theorem un4_low {s : Nat} (h : s < 4294967296) : s ^^^ foursN.getD (s / 268435456) 0 < 268435456 := by
  obtain ⟨h1, h2⟩ := fours_top (s / 268435456) (by omega)
  generalize foursN.getD (s / 268435456) 0 = f at *
  have h3 : (s ^^^ f) / 268435456 = s / 268435456 ^^^ f / 268435456 := by
    have := Nat.shiftRight_xor_distrib (a := s) (b := f) (i := 28)
    simpa [Nat.shiftRight_eq_div_pow] using this
  rw [h1, Nat.xor_self] at h3
  omega
theorem un4_lt {s : Nat} (h : s < 4294967296) : un4 s < 4294967296 := by
  have := un4_low h
  unfold un4; omega
theorem sh4_un4 {s : Nat} (h : s < 4294967296) : sh4 (un4 s) = s := by
  have h1 := un4_low h
  rw [← sh4_eq]
  have e1 : un4 s / 16 = s ^^^ foursN.getD (s / 268435456) 0 := by unfold un4; omega
  have e2 : un4 s % 16 = s / 268435456 := by unfold un4; omega
  rw [e1, e2, Nat.xor_assoc, Nat.xor_self, Nat.xor_zero]
/-- n times fourB shifts back. -/
def unN : Nat → Nat → Nat
  | 0, s => s
  | n + 1, s => un4 (unN n s)
theorem unN_lt (n : Nat) {s : Nat} (h : s < 4294967296) : unN n s < 4294967296 := by
  induction n with
  | zero => exact h
  | succ n ih => exact un4_lt ih
theorem sh8_unN (n : Nat) {s : Nat} (h : s < 4294967296) : sh8 (unN (n + 2) s) = unN n s := by
  show sh4 (sh4 (un4 (un4 (unN n s)))) = _
  rw [sh4_un4 (un4_lt (unN_lt n h)), sh4_un4 (unN_lt n h)]
theorem pass_unN {s : Nat} (h : s < 4294967296) : passN 4 (unN 8 s) = s := by
  show sh8 (sh8 (sh8 (sh8 (unN 8 s)))) = s
  rw [sh8_unN 6 h, sh8_unN 4 h, sh8_unN 2 h, sh8_unN 0 h]; rfl
/-- The fourB bytes of a word, the lowest one first. -/
def fourB (p : Nat) : List Int := [((p % 256 : Nat) : Int), ((p / 256 % 256 : Nat) : Int), ((p / 65536 % 256 : Nat) : Int), ((p / 16777216 % 256 : Nat) : Int)]
theorem four_bytes (p : Nat) : Byt (fourB p) := fun x hx => by
  simp only [fourB, List.mem_cons, List.not_mem_nil, or_false] at hx
  rcases hx with rfl | rfl | rfl | rfl <;> omega
theorem four_word {p : Nat} (h : p < 4294967296) : wordOf (fourB p) = p := by
  simp only [fourB, wordOf, Int.toNat_natCast, Nat.mul_zero, Nat.xor_zero]
  rw [split256 _ (p / 65536 % 256) (by omega), split256 _ (p / 256 % 256) (by omega), split256 _ (p % 256) (by omega)]
  omega
def patchN (c want : Nat) : Nat := (4294967295 - c) ^^^ unN 8 (4294967295 - want)
theorem patchN_lt {c want : Nat} : patchN c want < 4294967296 :=
  Nat.xor_lt_two_pow (n := 32) (by omega) (unN_lt 8 (by omega))
theorem patch_eq {c want : Nat} (hw : want < 4294967296) : moreN c (fourB (patchN c want)) = want := by
  unfold moreN
  rw [regF_word, four_word patchN_lt]
  unfold patchN
  rw [← Nat.xor_assoc, Nat.xor_self, Nat.zero_xor, show (fourB _).length = 4 from rfl, pass_unN (by omega)]
  omega
/-- What k rounds make of a register by a matrix. -/
def linN (m : List Nat) (r : Nat) : Nat → Nat
  | 0 => 0
  | k + 1 => linN m r k ^^^ (if r / 2 ^ k % 2 = 1 then m.getD k 0 else 0)
theorem mod_bit (r k : Nat) : r % 2 ^ (k + 1) = r % 2 ^ k ^^^ (if r / 2 ^ k % 2 = 1 then 2 ^ k else 0) := by
  apply Nat.eq_of_testBit_eq
  intro i
  rw [Nat.testBit_xor, Nat.testBit_mod_two_pow, Nat.testBit_mod_two_pow]
  have hb : (if r / 2 ^ k % 2 = 1 then 2 ^ k else 0).testBit i = (decide (k = i) && r.testBit i) := by
    have e : r.testBit k = decide (r / 2 ^ k % 2 = 1) := by rw [Nat.testBit_eq_decide_div_mod_eq]
    by_cases h : r / 2 ^ k % 2 = 1
    · rw [if_pos h, Nat.testBit_two_pow]
      by_cases hi : k = i
      · subst hi; simp [e, h]
      · simp [hi]
    · rw [if_neg h, Nat.zero_testBit]
      by_cases hi : k = i
      · subst hi; simp [e, h]
      · simp [hi]
  rw [hb]
  by_cases h1 : i < k
  · simp [h1, show i < k + 1 by omega, show ¬ k = i by omega]
  · by_cases h2 : k = i
    · subst h2; simp
    · simp [h1, h2, show ¬ i < k + 1 by omega]
/-- A matrix of this change. -/
def Mat (m : List Nat) (L : Nat → Nat) : Prop := m.length = 32 ∧ (∀ i, i < 32 → m.getD i 0 = L (2 ^ i)) ∧ (∀ a b, L (a ^^^ b) = L a ^^^ L b)
theorem lin_eq {m : List Nat} {L : Nat → Nat} (h : Mat m L) (r : Nat) : ∀ k, k ≤ 32 → linN m r k = L (r % 2 ^ k) := by
  have h0 : L 0 = 0 := by
    have := h.2.2 0 0
    rw [Nat.xor_self] at this
    rw [this, Nat.xor_self]
  intro k
  induction k with
  | zero => intro _; rw [Nat.pow_zero, Nat.mod_one, h0]; rfl
  | succ k ih =>
    intro hk
    rw [mod_bit, h.2.2, ← ih (by omega), linN]
    congr 1
    split
    · exact h.2.1 k (by omega)
    · exact h0.symm
theorem lin_all {m : List Nat} {L : Nat → Nat} (h : Mat m L) {r : Nat} (hr : r < 4294967296) : linN m r 32 = L r := by
  rw [lin_eq h r 32 (Nat.le_refl _), Nat.mod_eq_of_lt hr]
theorem lin_lt {m : List Nat} (hm : ∀ x ∈ m, x < 4294967296) (r k : Nat) : linN m r k < 4294967296 := by
  induction k with
  | zero => exact (by decide : (0 : Nat) < 4294967296)
  | succ k ih =>
    refine Nat.xor_lt_two_pow (n := 32) ih ?_
    split
    · by_cases hk : k < m.length
      · have : m.getD k 0 = m[k] := by simp [List.getD, hk]
        rw [this]; exact hm _ (List.getElem_mem hk)
      · simp [List.getD, show m[k]? = none from List.getElem?_eq_none (by omega)]
    · decide
theorem pass_odd (r : Nat) (a j : Nat) (h : r % 2 = 1) : passN (r * 2 ^ j) a = passN (r / 2 * 2 ^ (j + 1)) (passN (2 ^ j) a) := by
  rw [← pass_add]
  congr 1
  have e : r = 2 * (r / 2) + 1 := by omega
  conv => lhs; rw [e]
  rw [Nat.add_mul, Nat.one_mul, Nat.pow_succ, Nat.mul_comm 2, Nat.mul_assoc, Nat.mul_comm 2]
theorem pass_even (r : Nat) (a j : Nat) (h : r % 2 = 0) : passN (r * 2 ^ j) a = passN (r / 2 * 2 ^ (j + 1)) a := by
  congr 1
  have e : r = 2 * (r / 2) := by omega
  conv => lhs; rw [e]
  rw [Nat.pow_succ, Nat.mul_comm 2, Nat.mul_assoc, Nat.mul_comm 2]
theorem pass_two (j a : Nat) : passN (2 ^ j) (passN (2 ^ j) a) = passN (2 ^ (j + 1)) a := by
  rw [← pass_add]; congr 1; rw [Nat.pow_succ]; omega
theorem mat_one {m : List Nat} (hl : m.length = 32) (h : ∀ i, i < 32 → m.getD i 0 = sh8 (2 ^ i)) : Mat m (passN (2 ^ 0)) :=
  ⟨hl, fun i hi => h i hi, fun a b => pass_xor _ a b⟩
theorem mat_square {m q : List Nat} {j : Nat} (hm : Mat m (passN (2 ^ j))) (hl : q.length = 32) (h : ∀ i, i < 32 → q.getD i 0 = linN m (m.getD i 0) 32) : Mat q (passN (2 ^ (j + 1))) := by
  refine ⟨hl, fun i hi => ?_, fun a b => pass_xor _ a b⟩
  have hp : 2 ^ i < 4294967296 := Nat.lt_of_lt_of_le (Nat.pow_lt_pow_right (by decide) hi) (by decide)
  rw [h i hi, hm.2.1 i hi, lin_all hm (pass_lt _ hp), pass_two]
theorem mat_lt {m : List Nat} {j : Nat} (hm : Mat m (passN (2 ^ j))) : ∀ x ∈ m, x < 4294967296 := by
  intro x hx
  obtain ⟨i, hi, rfl⟩ := List.mem_iff_getElem.1 hx
  have hi2 : i < 32 := by have := hm.1; omega
  have h2 := hm.2.1 i hi2
  have : m.getD i 0 = m[i] := by simp [List.getD, hi]
  rw [← this, h2]
  exact pass_lt _ (Nat.lt_of_lt_of_le (Nat.pow_lt_pow_right (by decide) hi2) (by decide))
theorem ofInt32_nat (a : Nat) (ha : a < 4294967296) : (BitVec.ofInt 32 (a : Int)).toNat = a := by
  rw [BitVec.ofInt_natCast, BitVec.toNat_ofNat]; exact Nat.mod_eq_of_lt (by omega)
theorem bits_or_u32_nat (a b : Nat) (ha : a < 4294967296) (hb : b < 4294967296) : bits .or .u32 (a : Int) (b : Int) = ((a ||| b : Nat) : Int) := by
  have hx : a ||| b < 2 ^ 32 := Nat.or_lt_two_pow (by omega) (by omega)
  show IntKind.u32.wrap ((BitVec.ofInt 32 (a : Int) ||| BitVec.ofInt 32 (b : Int)).toNat : Int) = _
  rw [BitVec.toNat_or, ofInt32_nat a ha, ofInt32_nat b hb, wrap_u32']
  omega
theorem bits_xor_u32_nat (a b : Nat) (ha : a < 4294967296) (hb : b < 4294967296) : bits .xor .u32 (a : Int) (b : Int) = ((a ^^^ b : Nat) : Int) := by
  have hx : a ^^^ b < 2 ^ 32 := Nat.xor_lt_two_pow (by omega) (by omega)
  show IntKind.u32.wrap ((BitVec.ofInt 32 (a : Int) ^^^ BitVec.ofInt 32 (b : Int)).toNat : Int) = _
  rw [BitVec.toNat_xor, ofInt32_nat a ha, ofInt32_nat b hb, wrap_u32']
  omega
theorem xor_int (a b : Nat) (ha : a < 4294967296) (hb : b < 4294967296) : bits .xor .u32 (a : Int) (b : Int) = ((a ^^^ b : Nat) : Int) := bits_xor_u32_nat a b ha hb
theorem not32 (n : Nat) (h : n < 4294967296) : bits .xor .u32 IntKind.u32.max (n : Int) = ((4294967295 - n : Nat) : Int) := by
  have e : IntKind.u32.max = ((4294967295 : Nat) : Int) := rfl
  rw [e, bits_xor_u32_nat _ _ (by decide) h, not_eq h, Nat.xor_comm]
theorem and15 (n : Nat) (h : n < 4294967296) : bits .and .u32 (n : Int) 15 = ((n % 16 : Nat) : Int) := by
  have e : (15 : Int) = ((15 : Nat) : Int) := rfl
  rw [e, bits_and_u32_nat _ _ h (by decide), show (15 : Nat) = 2 ^ 4 - 1 from rfl, Nat.and_two_pow_sub_one_eq_mod]
theorem and1 (n : Nat) (h : n < 4294967296) : bits .and .u32 (n : Int) 1 = ((n % 2 : Nat) : Int) := by
  have e : (1 : Int) = ((1 : Nat) : Int) := rfl
  rw [e, bits_and_u32_nat _ _ h (by decide), show (1 : Nat) = 2 ^ 1 - 1 from rfl, Nat.and_two_pow_sub_one_eq_mod]
theorem or_low (a b : Nat) (ha : a < 268435456) (hb : b < 16) : bits .or .u32 ((a : Int) * 16) (b : Int) = ((16 * a + b : Nat) : Int) := by
  have e : (a : Int) * 16 = ((a * 16 : Nat) : Int) := by simp
  rw [e, bits_or_u32_nat _ _ (by omega) (by omega)]
  have h2 := Nat.shiftLeft_add_eq_or_of_lt (i := 4) (b := b) (by omega) a
  rw [Nat.shiftLeft_eq] at h2
  rw [← show a * 2 ^ 4 = a * 16 from rfl] at *
  rw [← h2]; congr 1; omega
end Go.Proofs.YtacogaeciodjeaaDoor
