/- Contracts that the law leans on, pruned and merged: Facc Keya Keyb Keyc Keyd Keye. -/
import Derived.Deep.Slices
import Derived.Deep.Fields
import Derived.ChangeSame
import Derived.ChangeSlices
import Derived.Lib.SmallJoins
import Derived.SliceStrings
import Derived.Test.YtigikgphipebiaaGreatDoorJa34
/- Layer 12: facts in memory, as they come in. -/
namespace Go.Proofs.YtigikgphipebiaaGreatDoor
set_option maxRecDepth 100000
open Go.RowKit
set_option linter.unusedVariables false
/-- The bytes of a float. -/
def eN (x : Nat) : List Int := encF (keyI x).toNat
set_option maxRecDepth 100000
open Go.RowKit
set_option linter.unusedVariables false
/-- A fact: codes, whole numbers, floats (their words). -/
structure Fa where
  cs : List Int
  is : List Int
  ns : List Nat
def eU (v : Int) : List Int := encU v.toNat
def encFa (f : Fa) : List Int := f.cs.flatMap eU ++ f.is.flatMap encI ++ f.ns.flatMap eN
/-- A fact of a schema's shape: the greatest codes, how many whole and real numbers. -/
structure FitFa (ms : List Int) (ni nn : Nat) (f : Fa) : Prop where
  lc : f.cs.length = ms.length
  li : f.is.length = ni
  ln : f.ns.length = nn
  c : ∀ k x, f.cs[k]? = some x → 0 ≤ x ∧ x ≤ ms.getD k 0 ∧ x ≤ 4096
  i : ∀ x ∈ f.is, -9223372036854775808 ≤ x ∧ x ≤ 9223372036854775807
  n : ∀ x ∈ f.ns, Keyed (keyI x)
set_option maxRecDepth 100000
open Go.RowKit
set_option linter.unusedVariables false
/-- The k-th code is one of its dimension. -/
def codAt (ds : List (ByteArray × Int)) (cs : List Int) (k : Nat) : Bool := decide (0 ≤ cs.getD k 0) && decide (cs.getD k 0 < dz ds k)
def codB (ds : List (ByteArray × Int)) (cs : List Int) : Bool := (List.range cs.length).all (codAt ds cs)
theorem cod_bad {ds : List (ByteArray × Int)} {cs : List Int} {k : Nat} (hk : k < cs.length) (h : codAt ds cs k = false) : codB ds cs = false := List.all_eq_false.2 ⟨k, by simpa using hk, by simp [h]⟩
theorem cod_good {ds : List (ByteArray × Int)} {cs : List Int} (h : ∀ j, j < cs.length → codAt ds cs j = true) : codB ds cs = true := List.all_eq_true.2 fun x hx => h x (by simpa using hx)
theorem cod_get {ds : List (ByteArray × Int)} {cs : List Int} (h : codB ds cs = true) {k : Nat} (hk : k < cs.length) : 0 ≤ cs.getD k 0 ∧ cs.getD k 0 < dz ds k := by
  have := List.all_eq_true.1 h k (by simpa using hk)
  simpa [codAt] using this
/-- The error of a fact, of a schema that is right. -/
def fitsL (S : Sc) (f : Fa) : Nat := if f.cs.length ≠ S.ds.length ∨ f.is.length ≠ S.is.length ∨ f.ns.length ≠ S.ns.length then 3 else if codB S.ds f.cs = true then 0 else 2
theorem fits_ok {S : Sc} {f : Fa} (h : fitsL S f = 0) : f.cs.length = S.ds.length ∧ f.is.length = S.is.length ∧ f.ns.length = S.ns.length ∧ codB S.ds f.cs = true := by
  unfold fitsL at h
  split at h
  · simp at h
  · rename_i q
    split at h
    · rename_i q2
      refine ⟨?_, ?_, ?_, q2⟩ <;> omega
    · simp at h
/-- The greatest codes. -/
def mostsS (S : Sc) : List Int := S.ds.map fun d => d.2 - 1
theorem mosts_get {S : Sc} {k : Nat} (hk : k < S.ds.length) : (mostsS S).getD k 0 = dz S.ds k - 1 := by
  rw [dz_get hk]
  simp [mostsS, List.getD, hk]
theorem mosts_len (S : Sc) : (mostsS S).length = S.ds.length := by simp [mostsS]
theorem check_siz {S : Sc} (h : checkL S = 0) {k : Nat} (hk : k < S.ds.length) : 1 ≤ dz S.ds k ∧ dz S.ds k ≤ 4096 := by
  have := siz_get (check_cnt' h).2 hk
  exact ⟨this.1, this.2.1⟩
theorem fit_of_fits {S : Sc} {f : Fa} (hc : checkL S = 0) (hi : ∀ x ∈ f.is, -9223372036854775808 ≤ x ∧ x ≤ 9223372036854775807) (hn : ∀ x ∈ f.ns, W64 x) (h : fitsL S f = 0) : FitFa (mostsS S) S.is.length S.ns.length f := by
  obtain ⟨h1, h2, h3, h4⟩ := fits_ok h
  refine ⟨by rw [mosts_len]; exact h1, h2, h3, fun k x hx => ?_, hi, fun x hx => keyed_key (hn x hx)⟩
  have hk := (List.getElem?_eq_some_iff.1 hx).1
  have hg := cod_get h4 hk
  have e : f.cs.getD k 0 = x := by simp [List.getD, hx]
  rw [e] at hg
  have hs := check_siz hc (k := k) (by omega)
  rw [mosts_get (by omega)]
  omega
set_option maxRecDepth 100000
open Go.RowKit Go.ChangeShapes Go.WideShapes Go.Deep
set_option linter.unusedVariables false
/-- A slice value reads as a list of floats. -/
def Fls (w : World) (v : Value) (xs : List Nat) : Prop :=
  ∃ a cap, v = .slice a xs.length cap ∧ xs.length ≤ cap ∧ (xs = [] ∨ ∃ b off, a = some ⟨b, off, none⟩ ∧ b < w.heap.size ∧ ∀ i, i < xs.length → w.cell? ⟨b, off + i, none⟩ = some (.float .f64 (xs.getD i 0)))
theorem Fls.below {w w' : World} {v : Value} {xs : List Nat} (h : Fls w v xs) (hb : Below w.heap.size w w') : Fls w' v xs := by
  obtain ⟨a, cap, rfl, h1, h3⟩ := h
  refine ⟨a, cap, rfl, h1, ?_⟩
  rcases h3 with h3 | ⟨b, off, rfl, hlt, hc⟩
  · exact .inl h3
  · exact .inr ⟨b, off, rfl, Nat.lt_of_lt_of_le hlt hb.size, fun i hi => (hb.cell (p := ⟨b, _, none⟩) hlt).trans (hc i hi)⟩
/-- The three slices of a fact. -/
structure Fact3 (w : World) (C I N : Value) (f : Fa) : Prop where
  c : Ints .i64 w C f.cs
  i : Ints .i64 w I f.is
  n : Fls w N f.ns
theorem Fact3.below {w w' : World} {C I N : Value} {f : Fa} (h : Fact3 w C I N f) (hb : Below w.heap.size w w') : Fact3 w' C I N f := ⟨h.c.below hb, h.i.below hb, h.n.below hb⟩
theorem Fact3.slices {w : World} {C I N : Value} {f : Fa} (h : Fact3 w C I N f) : (∃ a c, C = .slice a f.cs.length c) ∧ (∃ a c, I = .slice a f.is.length c) ∧ ∃ a c, N = .slice a f.ns.length c := by
  obtain ⟨⟨a, c, h1, -⟩, ⟨a2, c2, h2, -⟩, a3, c3, h3, -⟩ := h
  exact ⟨⟨a, c, h1⟩, ⟨a2, c2, h2⟩, a3, c3, h3⟩
/-- The numbers of a fact fit. -/
structure FaWf (f : Fa) : Prop where
  c : ∀ x ∈ f.cs, -9223372036854775808 ≤ x ∧ x ≤ 9223372036854775807
  i : ∀ x ∈ f.is, -9223372036854775808 ≤ x ∧ x ≤ 9223372036854775807
  n : ∀ x ∈ f.ns, W64 x
  l : f.cs.length ≤ 9223372036854775807 ∧ f.is.length ≤ 9223372036854775807 ∧ f.ns.length ≤ 9223372036854775807
abbrev FactV (C I N : Value) : Value := .agg #[C, I, N]
/-- A slice of facts: three cells each. -/
def Facts (w : World) (v : Value) (l : List Fa) : Prop :=
  ∃ a cap, v = .slice a l.length cap ∧ l.length ≤ cap ∧ l.length ≤ 9223372036854775807 ∧ (l = [] ∨ ∃ b off, a = some ⟨b, off, none⟩ ∧ b < w.heap.size ∧
    ∀ i (h : i < l.length), ∃ C I N, (w.cell? ⟨b, off + i * 3, none⟩ = some C ∧ w.cell? ⟨b, off + i * 3 + 1, none⟩ = some I ∧ w.cell? ⟨b, off + i * 3 + 2, none⟩ = some N) ∧ Fact3 w C I N l[i])
theorem Facts.below {w w' : World} {v : Value} {l : List Fa} (h : Facts w v l) (hb : Below w.heap.size w w') : Facts w' v l := by
  obtain ⟨a, cap, rfl, h1, h2, h3⟩ := h
  refine ⟨a, cap, rfl, h1, h2, ?_⟩
  rcases h3 with h3 | ⟨b, off, rfl, hlt, hc⟩
  · exact .inl h3
  · refine .inr ⟨b, off, rfl, Nat.lt_of_lt_of_le hlt hb.size, fun i hi => ?_⟩
    obtain ⟨C, I, N, ⟨q0, q1, q2⟩, q3⟩ := hc i hi
    exact ⟨C, I, N, ⟨(hb.cell (p := ⟨b, _, none⟩) hlt).trans q0, (hb.cell (p := ⟨b, _, none⟩) hlt).trans q1, (hb.cell (p := ⟨b, _, none⟩) hlt).trans q2⟩, q3.below hb⟩
theorem trod_f64 {H : Type} {enc : TypeId × Value → H} {P : Program} {w : World} {base : Nat} {spare : Nat → Bool} {held : Bool} {fuel : Nat} {t : TypeId} {cs : List Value} {x : DataW H × List MemPlace} {k : FloatKind} (ht : P.underlying t = some (.float k)) (h : DataW.trod enc P w base spare held fuel t cs = some x) : ∃ n, cs = [.float k n] ∧ (Lit.float k n).wf = true := by
  cases fuel with
  | zero => simp [DataW.trod] at h
  | succ n =>
    unfold DataW.trod at h
    rw [ht] at h
    split at h <;> simp_all
end Go.Proofs.YtigikgphipebiaaGreatDoor
/- Layer 13: keys of codes: pure. -/
namespace Go.Proofs.YtigikgphipebiaaGreatDoor
set_option maxRecDepth 100000
open Go.RowKit
set_option linter.unusedVariables false
/-- The key of codes for a set, the number of keys of a set, of the dimensions from the i-th on. -/
def keyG (d c : Nat → Int) (p : Nat → Bool) : Nat → Int
  | 0 => 0
  | k + 1 => if p k = true then keyG d c p k * d k + c k else keyG d c p k
def numG (d : Nat → Int) (p : Nat → Bool) : Nat → Int
  | 0 => 1
  | k + 1 => if p k = true then numG d p k * d k else numG d p k
def tailG (d : Nat → Int) (p : Nat → Bool) (i : Nat) : Nat → Int
  | 0 => 1
  | j + 1 => if p (i + j) = true then tailG d p i j * d (i + j) else tailG d p i j
theorem tailG_num (d : Nat → Int) (p : Nat → Bool) : ∀ n, tailG d p 0 n = numG d p n
  | 0 => rfl
  | n + 1 => by
    unfold tailG numG
    rw [tailG_num d p n, Nat.zero_add]
theorem tailG_pos {d : Nat → Int} {p : Nat → Bool} {n i : Nat} (hd : ∀ k, k < n → 1 ≤ d k) : ∀ j, i + j ≤ n → 1 ≤ tailG d p i j
  | 0, _ => by simp [tailG]
  | j + 1, h => by
    have h1 := tailG_pos (p := p) (i := i) hd j (by omega)
    have h2 := hd (i + j) (by omega)
    unfold tailG
    split
    · have := Int.mul_le_mul h1 h2 (by omega) (by omega)
      omega
    · exact h1
theorem tailG_cons (d : Nat → Int) (p : Nat → Bool) (i : Nat) : ∀ j, tailG d p i (j + 1) = (if p i = true then d i else 1) * tailG d p (i + 1) j
  | 0 => by
    simp only [tailG, Nat.add_zero]
    split <;> simp
  | j + 1 => by
    rw [tailG, tailG_cons d p i j]
    show _ = (if p i = true then d i else 1) * (if p (i + 1 + j) = true then tailG d p (i + 1) j * d (i + 1 + j) else tailG d p (i + 1) j)
    have e : i + (j + 1) = i + 1 + j := by omega
    rw [e]
    split
    · rw [Int.mul_assoc]
    · rfl
/-- The codes of the set from the i-th on are in their ranges. -/
def InG (d c : Nat → Int) (p : Nat → Bool) (n : Nat) : Prop := ∀ k, k < n → p k = true → 0 ≤ c k ∧ c k < d k
theorem keyG_split {d c : Nat → Int} {p : Nat → Bool} {n i : Nat} (hd : ∀ k, k < n → 1 ≤ d k) (hc : InG d c p n) : ∀ j, i + j ≤ n → ∃ r, 0 ≤ r ∧ r < tailG d p i j ∧ keyG d c p (i + j) = keyG d c p i * tailG d p i j + r
  | 0, _ => ⟨0, by simp, by simp [tailG], by simp [tailG]⟩
  | j + 1, h => by
    obtain ⟨r, h0, h1, h2⟩ := keyG_split (i := i) hd hc j (by omega)
    have hdj := hd (i + j) (by omega)
    have eT : tailG d p i (j + 1) = if p (i + j) = true then tailG d p i j * d (i + j) else tailG d p i j := rfl
    have eK : keyG d c p (i + (j + 1)) = if p (i + j) = true then keyG d c p (i + j) * d (i + j) + c (i + j) else keyG d c p (i + j) := rfl
    rw [eT, eK]
    by_cases hp : p (i + j) = true
    · obtain ⟨c0, c1⟩ := hc (i + j) (by omega) hp
      simp only [if_pos hp]
      refine ⟨r * d (i + j) + c (i + j), ?_, ?_, ?_⟩
      · have := Int.mul_nonneg h0 (show 0 ≤ d (i + j) by omega)
        omega
      · have h3 : (r + 1) * d (i + j) ≤ tailG d p i j * d (i + j) := Int.mul_le_mul_of_nonneg_right (by omega) (by omega)
        rw [Int.add_mul, Int.one_mul] at h3
        omega
      · rw [h2, Int.add_mul, Int.mul_assoc, Int.add_assoc]
    · simp only [if_neg hp]
      exact ⟨r, h0, h1, h2⟩
theorem keyG_range {d c : Nat → Int} {p : Nat → Bool} {n : Nat} (hd : ∀ k, k < n → 1 ≤ d k) (hc : InG d c p n) : 0 ≤ keyG d c p n ∧ keyG d c p n < numG d p n := by
  obtain ⟨r, h0, h1, h2⟩ := keyG_split (i := 0) hd hc n (by omega)
  rw [Nat.zero_add] at h2
  rw [tailG_num] at h1
  have e : keyG d c p 0 = 0 := rfl
  rw [e, Int.zero_mul] at h2
  omega
/-- The i-th code of a key. -/
def codG (d : Nat → Int) (p : Nat → Bool) (n : Nat) (q : Int) (i : Nat) : Int := if p i = true then q / tailG d p (i + 1) (n - i - 1) % d i else -1
/-- What dividing step by step leaves, from the last dimension on. -/
theorem rest_stepG {d : Nat → Int} {p : Nat → Bool} {n : Nat} (hd : ∀ k, k < n → 1 ≤ d k) (q : Int) {i : Nat} (hi : i < n) : q / tailG d p i (n - i) = if p i = true then q / tailG d p (i + 1) (n - (i + 1)) / d i else q / tailG d p (i + 1) (n - (i + 1)) := by
  have ht := tailG_pos (p := p) (i := i + 1) hd (n - i - 1) (by omega)
  have e : n - i = n - i - 1 + 1 := by omega
  have e2 : n - (i + 1) = n - i - 1 := by omega
  rw [e2, e, tailG_cons]
  split
  · rw [Int.mul_comm (d i), ← Int.ediv_ediv_of_nonneg (by omega)]
    rfl
  · rw [Int.one_mul]
    rfl
/-- The k-th dimension is in a set. -/
def bitG (m : Int) (k : Nat) : Bool := decide (m / 2 ^ k % 2 = 1)
theorem keys_num (ds : List (ByteArray × Int)) (m : Int) : ∀ n, keysL ds m n = numG (dz ds) (bitG m) n
  | 0 => rfl
  | n + 1 => by
    have ih := keys_num ds m n
    unfold keysL numG bitG
    rw [ih]
    by_cases h : m / 2 ^ n % 2 = 1
    · rw [if_pos h, if_pos (decide_eq_true h)]; rfl
    · rw [if_neg h, if_neg (by rw [decide_eq_false h]; decide)]; rfl
theorem sizes_one {ds : List (ByteArray × Int)} (h : sizB ds = true) : ∀ k, k < ds.length → 1 ≤ dz ds k := fun k hk => (siz_get h hk).1
end Go.Proofs.YtigikgphipebiaaGreatDoor
/- Layer 13: the program's number, has, join, split. -/
namespace Go.Proofs.YtigikgphipebiaaGreatDoor
set_option maxRecDepth 100000
open Go.RowKit
set_option linter.unusedVariables false
/-- Why a set of a schema has no keys: the schema is not right, or it is no set of its dimensions; 0: it has. -/
def numE (S : Sc) (m : Int) : Nat := if checkL S = 0 then if m ≤ fullL S.ds then 0 else 11 else 1
theorem num_yes {S : Sc} {m : Int} (h : numE S m = 0) : checkL S = 0 ∧ m ≤ fullL S.ds := by
  unfold numE at h
  split at h
  · rename_i h1
    split at h
    · rename_i h2; exact ⟨h1, h2⟩
    · cases h
  · cases h
theorem knumber_any (w : World) (D I M V : Value) (S : Sc) (m : Int) (h : Sch4 w D I M V S) (hw : SWf S) (m0 : 0 ≤ m) (m1 : m ≤ 4294967295) :
    Calls Tryz.prog 93 #[SchV D I M V, .int .u32 m] w fun e w' => e = .returned (.tuple #[.int .u64 (if numE S m = 0 then keysL S.ds m S.ds.length else 0), .int .i64 (numE S m)]) ∧ Below w.heap.size w w' := by
  have HB0 := Lib.hid (below_one w (SchO D I M V))
  have HX := Lib.hid (box_new w D I M V)
  have HK := Lib.hid (fun w1 (hb : Below w.heap.size w w1) => keys_any w1 D I M V S m (h.below hb) hw m0 m1)
  have HC := Lib.hid (fun w1 (hb : Below w.heap.size w w1) => check_any w1 D I M V S (h.below hb) hw)
  obtain ⟨⟨a, c, rfl⟩, ⟨a2, c2, rfl⟩, ⟨a3, c3, rfl⟩, a4, c4, rfl⟩ := h.slices
  clear h hw
  by_cases hx : checkL S = 0 ∧ m ≤ fullL S.ds
  · have hn : numE S m = 0 := by unfold numE; rw [if_pos hx.1, if_pos hx.2]
    rw [if_pos hx, decide_eq_true hx] at HK
    rw [hn, if_pos rfl]
    generalize keysL S.ds m S.ds.length = ky at *
    clear hx hn HC
    go_enter Tryz.func93, Tryz.ntmps93
    go_wp2_with fail
    refine (HK.out _ HB0.out).mono ?_; rintro e w1 ⟨rfl, hb⟩
    have HB1 := Lib.hid (below_then HB0.out hb)
    clear hb
    go_wp2_with fail
    exact bodyPost_ret (v := .tuple #[.int .u64 ky, .int .i64 0]) (by simp [results, Tryz.results93, go_sem]) rfl ⟨rfl, HB1.out⟩
  · rw [if_neg hx, decide_eq_false hx] at HK
    have hk : checkL S = 0 ∧ numE S m = 11 ∨ ((checkL S : Int) != 0) = true ∧ numE S m = 1 := by
      unfold numE
      by_cases h1 : checkL S = 0
      · rw [if_pos h1, if_neg (fun h2 => hx ⟨h1, h2⟩)]; exact .inl ⟨h1, rfl⟩
      · rw [if_neg h1]; exact .inr ⟨by simp; omega, rfl⟩
    clear hx
    rcases hk with ⟨h1, h2⟩ | ⟨h1, h2⟩
    · rw [h1] at HC
      rw [h2, if_neg (by decide)]
      clear h1 h2
      go_enter Tryz.func93, Tryz.ntmps93
      go_wp2_with fail
      refine (HK.out _ HB0.out).mono ?_; rintro e w1 ⟨rfl, hb⟩
      have HB1 := Lib.hid (below_then HB0.out hb)
      obtain ⟨x0, x1, x2, x3⟩ := (HX.out.below hb).reads
      clear hb
      go_wp2_with fail
      refine (HC.out _ HB1.out).mono ?_; rintro e w2 ⟨rfl, hb⟩
      have HB2 := Lib.hid (below_then HB1.out hb)
      clear hb
      go_wp2_with fail
      exact bodyPost_ret (v := .tuple #[.int .u64 0, .int .i64 11]) (by simp [results, Tryz.results93, go_sem]) rfl ⟨rfl, HB2.out⟩
    · rw [h2, if_neg (by decide)]
      generalize (checkL S : Int) = ck at *
      clear h2
      go_enter Tryz.func93, Tryz.ntmps93
      go_wp2_with fail
      refine (HK.out _ HB0.out).mono ?_; rintro e w1 ⟨rfl, hb⟩
      have HB1 := Lib.hid (below_then HB0.out hb)
      obtain ⟨x0, x1, x2, x3⟩ := (HX.out.below hb).reads
      clear hb
      go_wp2_with fail
      refine (HC.out _ HB1.out).mono ?_; rintro e w2 ⟨rfl, hb⟩
      have HB2 := Lib.hid (below_then HB1.out hb)
      clear hb
      go_wp2_with fail
      exact bodyPost_ret (v := .tuple #[.int .u64 0, .int .i64 1]) (by simp [results, Tryz.results93, go_sem]) rfl ⟨rfl, HB2.out⟩
theorem khas_any (w : World) (m : Int) (n : Nat) (hn : n ≤ 31) (m0 : 0 ≤ m) (m1 : m ≤ 4294967295) :
    Calls Tryz.prog 94 #[.int .u32 m, .int .i64 n] w fun e w' => e = .returned (.bool (bitG m n)) ∧ w = w' := by
  have hb1 : (bits .and .u32 (m / 2 ^ n) 1 == 1) = bitG m n := by
    exact and_one32 (div_range m0 m1 n).1 (div_range m0 m1 n).2
  have HE := Lib.hid hb1
  clear hb1
  go_enter Tryz.func94, Tryz.ntmps94
  go_wp2_with fail
  go_ret
  exact ⟨congrArg (fun b => Ending.returned (.bool b)) HE.out, rfl⟩
/-- The codes of a list, by number. -/
def cz (l : List Int) (k : Nat) : Int := l.getD k 0
theorem key_step {ds : List (ByteArray × Int)} {c : Nat → Int} {m : Int} (hz : sizB ds = true) (hc : InG (dz ds) c (bitG m) ds.length) : ∀ k, k ≤ ds.length → 0 ≤ keyG (dz ds) c (bitG m) k ∧ keyG (dz ds) c (bitG m) k ≤ 1099511627776 := fun k hk => by
  have h1 := keyG_range (n := k) (fun j hj => sizes_one hz j (by omega)) (fun j hj hp => hc j (by omega) hp)
  have h2 := keys_range m hz k hk
  have h3 := prod_pos hz k hk
  rw [← keys_num] at h1
  omega
set_option maxHeartbeats 4000000 in
theorem kjoin_any (w : World) (D u : Value) (ds : List (ByteArray × Int)) (m : Int) (l : List Int) (h : Dims w D ds) (hu : Ints .i64 w u l) (hn : ds.length ≤ 31) (hl : l.length = ds.length) (hz : sizB ds = true) (hc : InG (dz ds) (cz l) (bitG m) ds.length) (m0 : 0 ≤ m) (m1 : m ≤ 4294967295) :
    Calls Tryz.prog 95 #[D, .int .u32 m, u] w fun e w' => e = .returned (.int .u64 (keyG (dz ds) (cz l) (bitG m) ds.length)) ∧ Below w.heap.size w w' := by
  obtain ⟨a, cap, rfl, h1, h2, h3⟩ := h
  obtain ⟨pu, cu, rfl, hcu, -⟩ := id hu
  have HU := Lib.hid hu
  have HC := Lib.hid h3
  have HI := Lib.hid hc
  have HKn := Lib.hid (fun k => show keyG (dz ds) (cz l) (bitG m) (k + 1) = if bitG m k = true then keyG (dz ds) (cz l) (bitG m) k * dz ds k + cz l k else keyG (dz ds) (cz l) (bitG m) k from rfl)
  have HR := Lib.hid (key_step hz hc)
  have HZ := Lib.hid (fun k (hk : k < ds.length) => siz_get hz hk)
  have HH := Lib.hid (fun w k hk => khas_any w m k hk m0 m1)
  rw [hl]
  clear hu h3 hc hz
  go_enter Tryz.func95, Tryz.ntmps95
  go_wp2_with fail
  go_loopw [7, 12] (fun pv i wr => ∃ k : Nat, k ≤ ds.length ∧ i = .int .i64 k ∧ (∃ p : Int, pv = .int .u64 p ∧ 0 ≤ p ∧ p ≤ 1099511627776 ∧ Hid (p = keyG (dz ds) (cz l) (bitG m) k)) ∧ Hid (Below w.heap.size w wr)) (fun _ i _ => ds.length - (intOf i).toNat)
  case atStart => exact ⟨0, Nat.zero_le _, rfl, ⟨0, rfl, by decide, by decide, Lib.hid rfl⟩, Lib.hid (Below.refl _ _)⟩
  case round =>
    obtain ⟨k, hk, rfl, ⟨p, rfl, hp0, hp1, HE⟩, HB⟩ := hrel
    by_cases hlk : k < ds.length
    · rcases HC.out with h3 | ⟨b, off, rfl, hlt, hcell⟩
      · rw [h3] at hlk; simp at hlk
      obtain ⟨c0, c1⟩ := hcell k hlk
      have c0 : wr.cell? ⟨b, off + k * 2, none⟩ = _ := (HB.out.cell (p := ⟨b, off + k * 2, none⟩) hlt).trans c0
      have c1 : wr.cell? ⟨b, off + k * 2 + 1, none⟩ = _ := (HB.out.cell (p := ⟨b, off + k * 2 + 1, none⟩) hlt).trans c1
      obtain ⟨b2, o2, hp2, hb2, hc2⟩ := HU.out.cell (i := k) (by omega)
      subst hp2
      have hc2 := cell_later HB.out hc2
      have hc2 : wr.cell? ⟨b2, o2 + k, none⟩ = some (.int .i64 (cz l k)) := hc2
      have HKk := Lib.hid (HKn.out k)
      have hz := HZ.out k hlk
      have hr := HR.out (k + 1) (by omega)
      have hI := HI.out k hlk
      have hBs := HB.out.size
      have HB1 := Lib.hid (HB.out.alloc hBs (.cells #[.string (dn ds k), .int .i64 (dz ds k)] 73))
      have HHk := Lib.hid (fun w => HH.out w k (by omega))
      have hle : Hid (k + 1 ≤ ds.length) := Lib.hid (by omega)
      rw [← HE.out] at HKk
      generalize dn ds k = x at *
      generalize dz ds k = z at *
      generalize cz l k = y at *
      clear hcell
      by_cases hbit : bitG m k = true
      · obtain ⟨y0, y1⟩ := hI hbit
        rw [hbit] at HHk
        rw [if_pos hbit] at HKk
        have hpz : 0 ≤ p * z := Int.mul_nonneg hp0 (by omega)
        rw [HKk.out] at hr
        have i1 : IntKind.u64.wrap z = z := by rw [IntKind.wrap_u64]; omega
        have i2 : IntKind.u64.wrap (p * z) = p * z := by rw [IntKind.wrap_u64]; omega
        have i3 : IntKind.u64.wrap y = y := by rw [IntKind.wrap_u64]; omega
        have i4 : IntKind.u64.wrap (p * z + y) = p * z + y := by rw [IntKind.wrap_u64]; omega
        have HE3 := Lib.hid hr
        have hb3 := HB.out.size
        have hd2 := cell_later (below_one wr (.cells #[.string x, .int .i64 z] 73)) hc2
        clear hr hz hpz hI hbit y0 y1
        go_wp2_with fail
        refine (HHk.out _).mono ?_; rintro e w1 ⟨rfl, rfl⟩
        go_upto_region 6 with fail
        go_quiet (fail)
        have HB2 := Lib.hid (below_drewN HB1.out nq)
        go_wp2
        go_roundw
        case rel => exact ⟨k + 1, hle.out, by go_num, ⟨p * z + y, rfl, HE3.out.1, HE3.out.2, Lib.hid HKk.out.symm⟩, HB2⟩
        case measure => simp [intOf]; omega
      · rw [eq_false_of_ne_true hbit] at HHk
        rw [if_neg hbit] at HKk
        clear hr hz hI hbit hc2
        go_wp2_with fail
        refine (HHk.out _).mono ?_; rintro e w1 ⟨rfl, rfl⟩
        go_wp2_with fail
        go_roundw
        case rel => exact ⟨k + 1, hle.out, by go_num, ⟨p, rfl, hp0, hp1, Lib.hid HKk.out.symm⟩, HB1⟩
        case measure => simp [intOf]; omega
    · have : k = ds.length := by omega
      subst this
      have HE2 := Lib.hid HE.out
      clear HE
      go_wp2_with fail
      go_ret
      rw [HE2.out]
      exact ⟨rfl, HB.out⟩
end Go.Proofs.YtigikgphipebiaaGreatDoor
/- Layer 13: the program's split, Codes, Code, Down, Of. -/
namespace Go.Proofs.YtigikgphipebiaaGreatDoor
set_option maxRecDepth 100000
open Go.RowKit
set_option linter.unusedVariables false
/-- The codes of a key. -/
def codesL (ds : List (ByteArray × Int)) (m q : Int) : List Int := (List.range ds.length).map (codG (dz ds) (bitG m) ds.length q)
theorem codes_len (ds : List (ByteArray × Int)) (m q : Int) : (codesL ds m q).length = ds.length := by simp [codesL]
theorem codes_get (ds : List (ByteArray × Int)) (m q : Int) {k : Nat} (hk : k < ds.length) : cz (codesL ds m q) k = codG (dz ds) (bitG m) ds.length q k := by
  simp [cz, codesL, List.getD, hk]
/-- A row of the call's own that is filled, and all that was. -/
def IFill (w : World) (g cap : Nat) (out : List Int) (wr : World) : Prop := wr.ownsRow w.heap.size 3 1 (.slice (some ⟨g, 0, none⟩) out.length cap) out.length (out.map (Value.int .i64)) ∧ Below w.heap.size w wr ∧ w.heap.size ≤ g ∧ g < wr.heap.size
theorem IFill.set {w wr : World} {g cap : Nat} {out : List Int} (h : IFill w g cap out wr) (j : Nat) (x : Int) : IFill w g cap (out.set j x) (wr.setCell ⟨g, j, none⟩ (.int .i64 x)) := by
  refine ⟨?_, h.2.1.setCell h.2.2.1 _, h.2.2.1, by simpa using h.2.2.2⟩
  have := (World.ownsRow.stored h.1 j (.int .i64 x)).1
  simpa [List.map_set] using this
theorem IFill.cells {w wr : World} {g cap : Nat} {out : List Int} (h : IFill w g cap out wr) {j : Nat} (hj : j < out.length) : wr.cell? ⟨g, j, none⟩ = some (.int .i64 (out.getD j 0)) ∧ wr.frozen? ⟨g, j, none⟩ = false := by
  have h1 := h.1.1
  rw [List.length_map, Nat.mul_one] at h1
  refine ⟨?_, World.ownsRow.frozenAt h.1 j⟩
  rw [World.ownsRow.cellAt h.1 j (by omega), List.getElem?_map, List.getElem?_eq_getElem hj, List.getD, List.getElem?_eq_getElem hj]
  rfl
/-- After k steps: the last k codes stand, and what is left of the key. -/
def SplitAt (ds : List (ByteArray × Int)) (m q : Int) (k : Nat) (out : List Int) (r : Int) : Prop :=
  out.length = ds.length ∧ (∀ j, ds.length ≤ j + k → j < ds.length → out.getD j 0 = codG (dz ds) (bitG m) ds.length q j) ∧ r = q / tailG (dz ds) (bitG m) (ds.length - k) k
theorem SplitAt.start (ds : List (ByteArray × Int)) (m q : Int) : SplitAt ds m q 0 (List.replicate ds.length 0) q := ⟨by simp, fun j h1 h2 => by omega, by simp [tailG]⟩
theorem SplitAt.range {ds : List (ByteArray × Int)} {m q : Int} {k : Nat} {out : List Int} {r : Int} (h : SplitAt ds m q k out r) (hz : sizB ds = true) (hk : k ≤ ds.length) (q0 : 0 ≤ q) : 0 ≤ r ∧ r ≤ q := by
  obtain ⟨-, -, rfl⟩ := h
  have := tailG_pos (p := bitG m) (i := ds.length - k) (fun j hj => sizes_one hz j hj) k (by omega)
  refine ⟨Int.ediv_nonneg q0 (by omega), Int.ediv_le_self _ q0⟩
theorem SplitAt.step {ds : List (ByteArray × Int)} {m q : Int} {k i : Nat} {out : List Int} {r : Int} (h : SplitAt ds m q k out r) (hz : sizB ds = true) (hi : k + 1 + i = ds.length) :
    (bitG m i = true → SplitAt ds m q (k + 1) ((out.set i (-1)).set i (r % dz ds i)) (r / dz ds i)) ∧ (bitG m i = false → SplitAt ds m q (k + 1) (out.set i (-1)) r) := by
  obtain ⟨h1, h2, h3⟩ := h
  have e1 : ds.length - k = i + 1 := by omega
  have e2 : ds.length - (k + 1) = i := by omega
  have e3 : ds.length - i = k + 1 := by omega
  have e4 : ds.length - (i + 1) = k := by omega
  have e5 : ds.length - i - 1 = k := by omega
  have hs := rest_stepG (p := bitG m) (fun j hj => sizes_one hz j hj) q (i := i) (by omega)
  rw [e3, e4] at hs
  rw [e1] at h3
  have hcod : codG (dz ds) (bitG m) ds.length q i = if bitG m i = true then r % dz ds i else -1 := by unfold codG; rw [e5, h3]
  have hget : ∀ (o : List Int) (c : Int), o.length = ds.length → (∀ j, j ≠ i → o.getD j 0 = out.getD j 0) → o.getD i 0 = codG (dz ds) (bitG m) ds.length q i → ∀ j, ds.length ≤ j + (k + 1) → j < ds.length → o.getD j 0 = codG (dz ds) (bitG m) ds.length q j := fun o c ho h4 h5 j j1 j2 => by
    by_cases e : j = i
    · rw [e]; exact h5
    · rw [h4 j e]; exact h2 j (by omega) j2
  constructor
  · intro hb
    rw [if_pos hb] at hs hcod
    refine ⟨by simpa using h1, hget _ 0 (by simpa using h1) (fun j hj => ?_) ?_, ?_⟩
    · simp [List.getD, Ne.symm hj]
    · rw [hcod]; simp [List.getD, h1, show i < ds.length by omega]
    · rw [e2, hs, ← h3]
  · intro hb
    rw [if_neg (by rw [hb]; decide)] at hs hcod
    refine ⟨by simpa using h1, hget _ 0 (by simpa using h1) (fun j hj => ?_) ?_, ?_⟩
    · simp [List.getD, Ne.symm hj]
    · rw [hcod]; simp [List.getD, h1, show i < ds.length by omega]
    · rw [e2, hs, ← h3]
theorem SplitAt.done {ds : List (ByteArray × Int)} {m q : Int} {out : List Int} {r : Int} (h : SplitAt ds m q ds.length out r) : out = codesL ds m q := by
  obtain ⟨h1, h2, -⟩ := h
  refine List.ext_getElem (by rw [h1, codes_len]) fun j j1 j2 => ?_
  have h3 := h2 j (by omega) (by omega)
  have h4 := codes_get ds m q (k := j) (by omega)
  rw [List.getD, List.getElem?_eq_getElem j1] at h3
  unfold cz at h4
  rw [List.getD, List.getElem?_eq_getElem j2] at h4
  exact h3.trans h4.symm
end Go.Proofs.YtigikgphipebiaaGreatDoor
/- Layer 13: the program's Codes, Code, Down, Of. -/
namespace Go.Proofs.YtigikgphipebiaaGreatDoor
set_option maxRecDepth 100000
open Go.RowKit
set_option linter.unusedVariables false
theorem sc_few {S : Sc} (h : checkL S = 0) : S.ds.length ≤ 6 ∧ sizB S.ds = true := ⟨(cnt_iff.1 (check_cnt h).1).2.1, (check_cnt h).2.1⟩
end Go.Proofs.YtigikgphipebiaaGreatDoor
/- Layer 13: the program's Down, Of. -/
namespace Go.Proofs.YtigikgphipebiaaGreatDoor
set_option maxRecDepth 100000
open Go.RowKit
set_option linter.unusedVariables false
/-- The code of a dimension in the set is in its range. -/
def rngAt (ds : List (ByteArray × Int)) (m : Int) (l : List Int) (k : Nat) : Bool := !bitG m k || (decide (0 ≤ cz l k) && decide (cz l k < dz ds k))
def rngB (ds : List (ByteArray × Int)) (m : Int) (l : List Int) : Bool := (List.range ds.length).all (rngAt ds m l)
theorem rng_in {ds : List (ByteArray × Int)} {m : Int} {l : List Int} (h : ∀ k, k < ds.length → rngAt ds m l k = true) : InG (dz ds) (cz l) (bitG m) ds.length := fun k hk hp => by
  have := h k hk
  unfold rngAt at this
  rw [hp] at this
  simpa using this
theorem rng_good {ds : List (ByteArray × Int)} {m : Int} {l : List Int} (h : ∀ k, k < ds.length → rngAt ds m l k = true) : rngB ds m l = true := List.all_eq_true.2 fun x hx => h x (by simpa using hx)
theorem rng_bad {ds : List (ByteArray × Int)} {m : Int} {l : List Int} {k : Nat} (hk : k < ds.length) (h : rngAt ds m l k = false) : rngB ds m l = false := List.all_eq_false.2 ⟨k, by simpa using hk, by simp [h]⟩
theorem rng_get {ds : List (ByteArray × Int)} {m : Int} {l : List Int} (h : rngB ds m l = true) : ∀ k, k < ds.length → rngAt ds m l k = true := fun k hk => List.all_eq_true.1 h k (by simpa using hk)
/-- Why codes have no key: 0 where they have. -/
def ofE (S : Sc) (m : Int) (l : List Int) : Nat := if numE S m = 0 then if l.length = S.ds.length then if rngB S.ds m l = true then 0 else 2 else 3 else numE S m
def ofL (S : Sc) (m : Int) (l : List Int) : Int := if ofE S m l = 0 then keyG (dz S.ds) (cz l) (bitG m) S.ds.length else 0
theorem of_yes {S : Sc} {m : Int} {l : List Int} (h : ofE S m l = 0) : numE S m = 0 ∧ l.length = S.ds.length ∧ InG (dz S.ds) (cz l) (bitG m) S.ds.length := by
  unfold ofE at h
  split at h
  · rename_i h1
    split at h
    · rename_i h2
      split at h
      · rename_i h3; exact ⟨h1, h2, rng_in (rng_get h3)⟩
      · cases h
    · cases h
  · rename_i h1; exact absurd h h1
end Go.Proofs.YtigikgphipebiaaGreatDoor
