/- What Text of package nat returns. -/
import Derived.Test.YtdnbjaeeebodkaaGreatNatr
import Derived.WalkSpells
import Derived.RegionTactic
import Derived.ChangeAlike
import Derived.Deep.LoopGhost
import Derived.Laws.IdiomStrings
namespace Go.Proofs.YtdnbjaeeebodkaaGreat
set_option maxRecDepth 100000
open Go.RowKit
set_option linter.unusedVariables false
def TenRel (a : List Int) (d : Int) (i : Nat) (out : List Int) (c : Int) : Prop :=
  wvN a i * 10 + d = wvN out i + 4294967296 ^ i * c ∧ Wd out ∧ out.length = a.length ∧ 0 ≤ c ∧ c ≤ 9 ∧ ∀ j, i ≤ j → out.getD j 0 = a.getD j 0
theorem TenRel.start {a : List Int} {d : Int} (ha : Wd a) (d0 : 0 ≤ d) (d1 : d ≤ 9) : TenRel a d 0 a d := ⟨by simp [wvN], ha, rfl, d0, d1, fun _ _ => rfl⟩
theorem TenRel.step {a out : List Int} {d c : Int} {i : Nat} (h : TenRel a d i out c) (hi : i < a.length) (x : Int) (hx : out.getD i 0 = x) :
    TenRel a d (i + 1) (out.set i ((c + x * 10) % 4294967296)) ((c + x * 10) / 4294967296) := by
  obtain ⟨h1, h2, h3, h4, h5, h6⟩ := h
  have hxr := h2.getD i
  have hxa := h6 i (Nat.le_refl _)
  rw [hx] at hxr hxa
  refine ⟨?_, h2.set (by omega) (by omega), by simpa using h3, by omega, by omega, fun j hj => ?_⟩
  · rw [wvN_set_succ (by omega), wvN, ← hxa, q_succ, Int.add_mul]
    have e := wcarry_step (c + x * 10) (4294967296 ^ i)
    have e1 : (c + x * 10) * 4294967296 ^ i = c * 4294967296 ^ i + x * 4294967296 ^ i * 10 := by rw [Int.add_mul, Int.mul_assoc, Int.mul_comm 10, ← Int.mul_assoc]
    have e2 : 4294967296 ^ i * 4294967296 * ((c + x * 10) / 4294967296) = (c + x * 10) / 4294967296 * (4294967296 ^ i * 4294967296) := Int.mul_comm _ _
    have e3 : 4294967296 ^ i * c = c * 4294967296 ^ i := Int.mul_comm _ _
    omega
  · rw [getD_set_other (by omega)]; exact h6 j (by omega)
theorem tidy_of_size {a : List Int} (hd : Wd a) (h : a ≠ [] → 4294967296 ^ (a.length - 1) ≤ wv a) : Tidy a := by
  by_cases hn : a = []
  · exact .inl hn
  · refine .inr fun h0 => ?_
    have hl : 0 < a.length := List.length_pos_iff.2 hn
    have h1 := h hn
    have h2 := (wvN_range hd (a.length - 1)).2
    have h3 : wv a = wvN a (a.length - 1) := by
      rw [wv, show a.length = (a.length - 1) + 1 from by omega, wvN, Nat.add_sub_cancel, h0]; simp
    omega
theorem TenRel.stop0 {a out : List Int} {d : Int} (h : TenRel a d a.length out 0) (hd : Wd a) (ht : Tidy a) (d0 : 0 ≤ d) : wv out = wv a * 10 + d ∧ Wd out ∧ Tidy out ∧ out.length = a.length := by
  obtain ⟨h1, h2, h3, h4, h5, h6⟩ := h
  have hv : wv out = wv a * 10 + d := by rw [← wvN_past out (n := a.length) (by omega)]; rw [wv]; omega
  refine ⟨hv, h2, tidy_of_size h2 (fun hn => ?_), h3⟩
  have hna : a ≠ [] := by intro e; subst e; exact hn (List.length_eq_zero_iff.1 h3)
  have h7 := ht.wsize hd hna
  have h8 := (wv_range hd).1
  rw [h3]; omega
theorem TenRel.stop1 {a out : List Int} {d c : Int} (h : TenRel a d a.length out c) (hc : c ≠ 0) : wv (out ++ [c]) = wv a * 10 + d ∧ Wd (out ++ [c]) ∧ Tidy (out ++ [c]) := by
  obtain ⟨h1, h2, h3, h4, h5, h6⟩ := h
  refine ⟨?_, h2.snoc h4 (by omega), .inr (by simp [List.getD]; exact hc)⟩
  rw [wv_snoc, ← wvN_past out (n := a.length) (by omega), h3, wv]
  have : c * 4294967296 ^ a.length = 4294967296 ^ a.length * c := Int.mul_comm _ _
  omega
def TenPost (B : Nat) (z : Int) (m : Nat) (w : World) (e : Ending) (w' : World) : Prop :=
  ∃ v a, e = .returned v ∧ w'.ownsRow B 90 1 v a.length (a.map (Value.int .u32)) ∧ Wd a ∧ Tidy a ∧ wv a = z ∧ a.length ≤ m ∧ Below B w w'
theorem room47w {n : Nat} (h : n ≤ 1099511627776) : (n + 1) * 4 ≤ 140737488355328 := by omega
set_option maxRecDepth 100000
open Go.RowKit
set_option linter.unusedVariables false
/-- The number of decimal digits, the highest first. -/
def decI (l : List UInt8) : Int := l.foldl (fun z c => z * 10 + ((c.toNat : Int) - 48)) 0
def isDig (c : UInt8) : Bool := decide (48 ≤ c.toNat) && decide (c.toNat ≤ 57)
def readable (l : List UInt8) : Bool := !l.isEmpty && decide (l.length ≤ 1000) && (!(l.head? == some 48) || l == [48]) && l.all isDig
theorem decI_snoc (l : List UInt8) (c : UInt8) : decI (l ++ [c]) = decI l * 10 + ((c.toNat : Int) - 48) := by simp [decI]
theorem isDig_iff {c : UInt8} : isDig c = true ↔ 48 ≤ c.toNat ∧ c.toNat ≤ 57 := by simp [isDig]
theorem all_nonneg {l : List UInt8} (h : l.all isDig = true) : 0 ≤ decI l := by
  have key : ∀ (l : List UInt8) (z : Int), 0 ≤ z → l.all isDig = true → 0 ≤ l.foldl (fun z c => z * 10 + ((c.toNat : Int) - 48)) z := by
    intro l
    induction l with
    | nil => intro z h _; exact h
    | cons c l ih =>
      intro z h h2
      rw [List.all_cons, Bool.and_eq_true, isDig_iff] at h2
      rw [List.foldl_cons]
      exact ih _ (by show 0 ≤ z * 10 + ((c.toNat : Int) - 48); omega) h2.2
  exact key l 0 (by omega) h
theorem bytes_snoc (s : ByteArray) (k : Nat) (h : k < s.size) : s.data.toList.take (k + 1) = s.data.toList.take k ++ [s[k]] := by
  rw [List.take_succ_eq_append_getElem (by simpa using h)]; rfl
def ReadPost (l : List UInt8) (w : World) (e : Ending) (w' : World) : Prop :=
  (readable l = true ∧ ∃ v, e = .returned (.tuple #[v, .bool true]) ∧ IsNat w' v (decI l) ∧ Below w.heap.size w w') ∨ (readable l = false ∧ NoneOk w e w')
theorem bad_in {s : ByteArray} {k : Nat} (hk : k < s.size) (h : isDig s[k] = false) : readable s.data.toList = false := by
  have : s.data.toList.all isDig = false := by
    rw [List.all_eq_false]
    exact ⟨s[k], by simp [ByteArray.getElem_eq_getElem_data], by simp [h]⟩
  simp [readable, this]
def GoodHead (l : List UInt8) : Prop := (!l.isEmpty && decide (l.length ≤ 1000) && (!(l.head? == some 48) || l == [48])) = true
theorem readable_of {l : List UInt8} (h : GoodHead l) (ha : l.all isDig = true) : readable l = true := by
  unfold GoodHead at h
  simp only [readable, h, ha, Bool.and_true]
set_option maxRecDepth 100000
open Go.RowKit
set_option linter.unusedVariables false
/-- A row of bytes of the call's own. -/
def BRow (w : World) (B g cap : Nat) (a : List Int) : Prop := w.ownsRow B 5 1 (.slice (some ⟨g, 0, none⟩) a.length cap) a.length (a.map (Value.int .u8))
theorem BRow.facts {w : World} {B g cap : Nat} {a : List Int} (h : BRow w B g cap a) : B ≤ g ∧ g < w.heap.size ∧ a.length ≤ cap ∧ cap ≤ maxLen ∧ ∀ j, j < a.length → w.cell? ⟨g, j, none⟩ = some (.int .u8 (a.getD j 0)) ∧ w.frozen? ⟨g, j, none⟩ = false := by
  have h0 := h
  obtain ⟨hl, hh⟩ := h
  have h1 := World.ownsRow.lt h0 g rfl
  refine ⟨h1.1, h1.2, ?_, ?_, fun j hj => ⟨?_, World.ownsRow.frozenAt h0 j⟩⟩
  · rcases hh with ⟨e, _⟩ | ⟨g', cap', cur, e, _, _, hc, _⟩
    · simp at e
    · simp at e; omega
  · rcases hh with ⟨e, _⟩ | ⟨g', cap', cur, e, _, _, _, hc, _⟩
    · simp at e
    · simp at e; omega
  · rw [World.ownsRow.cellAt h0 j (by omega)]
    simp [List.getD, hj]
theorem BRow.set {w : World} {B g cap : Nat} {a : List Int} (h : BRow w B g cap a) (j : Nat) (x : Int) : BRow (w.setCell ⟨g, j, none⟩ (.int .u8 x)) B g cap (a.set j x) := by
  have := (World.ownsRow.stored h j (.int .u8 x)).1
  simpa [BRow, List.map_set] using this
theorem BRow.drewN {w : World} {B g cap : Nat} {a : List Int} (h : BRow w B g cap a) (n : Nat) : BRow (w.drewN n) B g cap a := h
theorem BRow.cut {w : World} {B g cap n : Nat} {a : List Int} (h : BRow w B g cap a) (hn : n ≤ a.length) : BRow w B g cap (a.take n) := by
  have hl : (a.take n).length = n := by rw [List.length_take]; omega
  obtain ⟨k1, k2⟩ := h
  refine ⟨by simp, ?_⟩
  rcases k2 with ⟨e, _⟩ | ⟨g', cap', cur, e, q1, q2, q3, q4, q5, q6⟩
  · simp at e
  · refine .inr ⟨g', cap', cur, by simp at e ⊢; exact ⟨e.1, e.2⟩, q1, q2, by omega, q4, q5, ?_⟩
    have := congrArg (List.take n) q6
    rw [List.take_take] at this
    rw [hl, show n * 1 = min n (a.length * 1) from by omega, this, List.map_take]
/-- The first i and the last i cells are exchanged. -/
def RevRel (a : List Int) (i : Nat) (out : List Int) : Prop := out.length = a.length ∧ ∀ k, k < a.length → out.getD k 0 = if k < i ∨ a.length ≤ k + i then a.getD (a.length - 1 - k) 0 else a.getD k 0
theorem RevRel.start (a : List Int) : RevRel a 0 a := ⟨rfl, fun k hk => by rw [if_neg (by omega)]⟩
theorem getD_set_if {l : List Int} {j i : Nat} {x : Int} (h : j < l.length) : (l.set j x).getD i 0 = if i = j then x else l.getD i 0 := by
  by_cases e : i = j
  · subst e; rw [if_pos rfl]; exact getD_set_self h
  · rw [if_neg e]; exact getD_set_other (fun q => e q.symm)
theorem RevRel.step {a out : List Int} {i : Nat} (h : RevRel a i out) (hi : 2 * i + 1 < a.length) (x y : Int) (hx : out.getD i 0 = x) (hy : out.getD (a.length - 1 - i) 0 = y) :
    RevRel a (i + 1) ((out.set i y).set (a.length - 1 - i) x) ∧ (out.set i y).set (a.length - 1 - i) x = (out.set (a.length - 1 - i) x).set i y := by
  obtain ⟨h1, h2⟩ := h
  have hxa := h2 i (by omega)
  have hya := h2 (a.length - 1 - i) (by omega)
  rw [if_neg (by omega), hx] at hxa
  rw [if_neg (by omega), hy] at hya
  refine ⟨⟨by simpa using h1, fun k hk => ?_⟩, List.set_comm _ _ (by omega)⟩
  rw [getD_set_if (by simp; omega), getD_set_if (by omega)]
  by_cases e1 : k = a.length - 1 - i
  · subst e1
    rw [if_pos rfl, if_pos (by omega), hxa]
    congr 1; omega
  · rw [if_neg e1]
    by_cases e2 : k = i
    · subst e2
      rw [if_pos rfl, if_pos (by omega), hya]
    · rw [if_neg e2, h2 k hk]
      by_cases e3 : k < i ∨ a.length ≤ k + i
      · rw [if_pos e3, if_pos (by omega)]
      · rw [if_neg e3, if_neg (by omega)]
theorem RevRel.stop {a out : List Int} {i : Nat} (h : RevRel a i out) (hi : a.length ≤ 2 * i + 1) : out = a.reverse := by
  obtain ⟨h1, h2⟩ := h
  apply List.ext_getElem (by simpa using h1)
  intro k hk1 hk2
  have hk : k < a.length := by omega
  have e := h2 k hk
  have e1 : out.getD k 0 = out[k] := by simp [List.getD, hk1]
  rw [← e1, e, List.getElem_reverse]
  have e2 : a.getD (a.length - 1 - k) 0 = a[a.length - 1 - k] := by simp [List.getD, show a.length - 1 - k < a.length from by omega]
  by_cases e3 : k < i ∨ a.length ≤ k + i
  · rw [if_pos e3, e2]
  · rw [if_neg e3]
    have e4 : a.length - 1 - k = k := by omega
    simp only [e4] at e2
    rw [e2]; simp only [e4]
set_option maxRecDepth 100000
open Go.RowKit
set_option linter.unusedVariables false
/-- Decimal digits, the lowest first. -/
def v10 : List Int → Int
  | [] => 0
  | d :: t => d + 10 * v10 t
def Ten (ds : List Int) : Prop := ∀ d ∈ ds, 0 ≤ d ∧ d ≤ 9
theorem t_pos (n : Nat) : (0 : Int) < 10 ^ n := Int.pow_pos (by decide)
theorem v10_snoc (ds : List Int) (d : Int) : v10 (ds ++ [d]) = v10 ds + 10 ^ ds.length * d := by
  induction ds with
  | nil => simp [v10]
  | cons c t ih =>
    rw [List.cons_append, v10, ih, v10, List.length_cons, Int.pow_succ, Int.mul_add, Int.mul_comm (10 ^ t.length) 10, Int.mul_assoc]; omega
theorem Ten.snoc {ds : List Int} (h : Ten ds) {d : Int} (d0 : 0 ≤ d) (d1 : d ≤ 9) : Ten (ds ++ [d]) := by
  intro y hy
  rcases List.mem_append.1 hy with hy | hy
  · exact h y hy
  · simp at hy; subst hy; exact ⟨d0, d1⟩
theorem Ten.take {ds : List Int} (h : Ten ds) (n : Nat) : Ten (ds.take n) := fun x hx => h x (List.mem_of_mem_take hx)
theorem v10_nonneg {ds : List Int} (h : Ten ds) : 0 ≤ v10 ds := by
  induction ds with
  | nil => simp [v10]
  | cons c t ih =>
    have := h c (by simp)
    have := ih (fun x hx => h x (List.mem_cons_of_mem _ hx))
    rw [v10]; omega
def byteOf (d : Int) : UInt8 := UInt8.ofNat (48 + d).toNat
theorem byteOf_toNat {d : Int} (d0 : 0 ≤ d) (d1 : d ≤ 9) : ((byteOf d).toNat : Int) = 48 + d := by
  unfold byteOf
  rw [UInt8.toNat_ofNat_of_lt' (by show _ < 256; omega)]; omega
theorem decI_rev {ds : List Int} (h : Ten ds) : decI (ds.reverse.map byteOf) = v10 ds := by
  induction ds with
  | nil => rfl
  | cons c t ih =>
    have hc := h c (by simp)
    rw [List.reverse_cons, List.map_append, List.map_singleton, decI_snoc, ih (fun x hx => h x (List.mem_cons_of_mem _ hx)), byteOf_toNat hc.1 hc.2, v10]; omega
/-- The text of a number: digits, and no nought ahead of others. -/
def IsDec (l : List UInt8) (z : Int) : Prop := l.all isDig = true ∧ decI l = z ∧ l ≠ [] ∧ (l.head? = some 48 → l = [48])
theorem isDec_zero : IsDec [48] 0 := ⟨rfl, rfl, by simp, fun _ => rfl⟩
theorem isDec_rev {ds : List Int} (h : Ten ds) (hne : ds ≠ []) (hl : ds.getD (ds.length - 1) 0 ≠ 0) : IsDec (ds.reverse.map byteOf) (v10 ds) := by
  refine ⟨?_, decI_rev h, by simpa using hne, fun e => ?_⟩
  · rw [List.all_eq_true]
    intro c hc
    obtain ⟨d, hd, rfl⟩ := List.mem_map.1 hc
    have := h d (List.mem_reverse.1 hd)
    have h2 := byteOf_toNat this.1 this.2
    rw [isDig_iff]; omega
  · exfalso
    obtain ⟨t, d, rfl⟩ : ∃ t d, ds = t ++ [d] := by
      rcases List.eq_nil_or_concat ds with h | ⟨t, d, h⟩
      · exact absurd h hne
      · exact ⟨t, d, by simpa using h⟩
    simp [List.getD] at hl
    have hd := h d (by simp)
    rw [List.reverse_append] at e
    simp at e
    have h2 := byteOf_toNat hd.1 hd.2
    rw [e] at h2
    have : ((48 : UInt8).toNat : Int) = 48 := rfl
    omega
theorem other_block {w : World} {B : Nat} {rv dv : Value} {n m : Nat} {xs ys : List Value} (hr : w.ownsRow B 90 1 rv n xs) (hd : w.ownsRow B 5 1 dv m ys) : rv.ownBlock = none ∨ rv.ownBlock ≠ dv.ownBlock := by
  rcases hr.2 with ⟨rfl, _⟩ | ⟨g, cap, cur, rfl, _, h1, _⟩
  · exact .inl rfl
  · rcases hd.2 with ⟨rfl, _⟩ | ⟨g', cap', cur', rfl, _, h2, _⟩
    · exact .inr (by simp [Value.ownBlock])
    · refine .inr (fun e => ?_)
      simp only [Value.ownBlock, Option.some.injEq] at e
      subst e
      rw [h1] at h2
      simp only [Option.some.injEq, Obj.cells.injEq] at h2
      exact absurd h2.2.1 (by decide)
theorem other_block' {w : World} {B : Nat} {rv dv : Value} {n m : Nat} {xs ys : List Value} (hr : w.ownsRow B 90 1 rv n xs) (hd : w.ownsRow B 5 1 dv m ys) : dv.ownBlock = none ∨ dv.ownBlock ≠ rv.ownBlock := by
  rcases hd.2 with ⟨rfl, _⟩ | ⟨g', cap', cur', rfl, _, h2, _⟩
  · exact .inl rfl
  · rcases other_block hr hd with h | h
    · rw [h]; exact .inr (by simp [Value.ownBlock])
    · exact .inr (fun e => h e.symm)
theorem pow_bound {n m : Nat} {z : Int} (h : (10 : Int) ^ n ≤ z) (hz : z < 4294967296 ^ m) : n ≤ m * 32 := by
  by_cases e : n ≤ m * 32
  · exact e
  · exfalso
    rw [pow32] at hz
    have h1 : (2 : Int) ^ n ≤ 10 ^ n := by
      have : (2 : Nat) ^ n ≤ 10 ^ n := Nat.pow_le_pow_left (by decide) n
      have e1 : ((2 ^ n : Nat) : Int) = (2 : Int) ^ n := by simp
      have e2 : ((10 ^ n : Nat) : Int) = (10 : Int) ^ n := by simp
      omega
    have h2 := pow2_mono (m := m * 32) (n := n) (by omega)
    omega
theorem Tryz.infoU8 : (Tryz.prog.info? 5).map (fun i => (i.zero, i.size, i.bytes)) = some (some (.int .u8 0), 1, 1) := by kernel_rfl
def TextPost (z : Int) (w : World) (e : Ending) (w' : World) : Prop := ∃ s : ByteArray, e = .returned (.string s) ∧ IsDec s.data.toList z ∧ Below w.heap.size w w'
/-- The digits that are out, and the rest. -/
def TextRel (B : Nat) (z : Int) (x ds : List Int) (rv dv : Value) (w wr : World) : Prop :=
  wr.ownsRow B 90 1 rv x.length (x.map (Value.int .u32)) ∧ Wd x ∧ Tidy x ∧ x.length ≤ 1000000 ∧ wr.ownsRow B 5 1 dv (ds.map (48 + ·)).length ((ds.map (48 + ·)).map (Value.int .u8)) ∧ Ten ds ∧ z = v10 ds + 10 ^ ds.length * wv x ∧ Below B w wr
/-- In the middle of a chunk. -/
def ChunkRel (B : Nat) (z : Int) (n : Nat) (x ds : List Int) (p : Int) (j : Nat) (rv dv : Value) (w wr : World) : Prop :=
  wr.ownsRow B 90 1 rv x.length (x.map (Value.int .u32)) ∧ Wd x ∧ Tidy x ∧ x.length ≤ 1000000 ∧ wr.ownsRow B 5 1 dv (ds.map (48 + ·)).length ((ds.map (48 + ·)).map (Value.int .u8)) ∧ Ten ds ∧ ds.length = n + j ∧ z = v10 ds + 10 ^ ds.length * (p + 10 ^ (9 - j) * wv x) ∧ 0 ≤ p ∧ p < 10 ^ (9 - j) ∧ Below B w wr
theorem ChunkRel.stop {B : Nat} {z : Int} {n : Nat} {x ds : List Int} {p : Int} {rv dv : Value} {w wr : World} (h : ChunkRel B z n x ds p 9 rv dv w wr) : TextRel B z x ds rv dv w wr := by
  obtain ⟨h1, h2, h3, h4, h5, h6, h7, h8, h9, h10, h11⟩ := h
  have : p = 0 := by simp at h10; omega
  subst this
  refine ⟨h1, h2, h3, h4, h5, h6, ?_, h11⟩
  rw [h8]; simp
theorem ChunkRel.push {B : Nat} {z : Int} {n : Nat} {x ds : List Int} {p : Int} {j : Nat} {rv dv dv' : Value} {w wr w1 : World} {ob : Obj} (h : ChunkRel B z n x ds p j rv dv w wr) (hj : j < 9) (hB : B ≤ wr.heap.size)
    (hown : w1.ownsRow B 5 1 dv' ((ds.map (48 + ·)).length + 1) ((ds.map (48 + ·)).map (Value.int .u8) ++ [.int .u8 (48 + p % 10)])) (hg : (wr.alloc ob).grownBy w1 dv.ownBlock) :
    ChunkRel B z n x (ds ++ [p % 10]) (p / 10) (j + 1) rv dv' w w1 := by
  obtain ⟨h1, h2, h3, h4, h5, h6, h7, h8, h9, h10, h11⟩ := h
  obtain ⟨t, ht⟩ : ∃ t, 9 - j = t + 1 := ⟨8 - j, by omega⟩
  have ht2 : 9 - (j + 1) = t := by omega
  refine ⟨World.ownsRow.kept (h1.alloc ob) hg (other_block h1 h5), h2, h3, h4, by simpa using hown, h6.snoc (by omega) (by omega), by simp; omega, ?_, by omega, ?_, ?_⟩
  · rw [h8, v10_snoc, List.length_append, List.length_singleton, Int.pow_succ, ht, ht2, Int.pow_succ]
    have e1 : (10 : Int) ^ t * 10 * wv x = 10 * (10 ^ t * wv x) := by rw [Int.mul_comm (10 ^ t) 10, Int.mul_assoc]
    rw [e1]
    generalize (10 : Int) ^ t * wv x = V
    generalize (10 : Int) ^ ds.length = P
    have e2 : P * (p + 10 * V) = P * (p % 10) + P * 10 * (p / 10 + V) := by
      rw [Int.mul_assoc P 10, ← Int.mul_add]; congr 1; omega
    omega
  · rw [ht, Int.pow_succ] at h10
    rw [ht2]; omega
  · refine (h11.alloc hB ob).grown hg ?_ ?_
    · simp; omega
    · intro k hk; exact (h5.lt k hk).1
theorem TextRel.chunk {B : Nat} {z : Int} {x ds y : List Int} {rv rv' dv : Value} {w wr w1 : World} (h : TextRel B z x ds rv dv w wr) (hrow : w1.ownsRow B 90 1 rv' y.length (y.map (Value.int .u32))) (hd : Wd y) (ht : Tidy y) (hl : y.length ≤ x.length) (hy : wv y = wv x / 1000000000)
    (hdv : w1.ownsRow B 5 1 dv (ds.map (48 + ·)).length ((ds.map (48 + ·)).map (Value.int .u8))) (hb : Below B w w1) : ChunkRel B z ds.length y ds (wv x % 1000000000) 0 rv' dv w w1 := by
  obtain ⟨h1, h2, h3, h4, h5, h6, h7, h8⟩ := h
  refine ⟨hrow, hd, ht, by omega, hdv, h6, by omega, ?_, by omega, ?_, hb⟩
  · have e : (10 : Int) ^ (9 - 0) = 1000000000 := by decide
    rw [h7, e, hy]; congr 2; omega
  · have e : (10 : Int) ^ (9 - 0) = 1000000000 := by decide
    rw [e]; omega
theorem TextRel.len {B : Nat} {z : Int} {x ds : List Int} {rv dv : Value} {w wr : World} (h : TextRel B z x ds rv dv w wr) (hne : x ≠ []) {m : Nat} (hz : z < 4294967296 ^ m) : ds.length ≤ m * 32 ∧ 0 < wv x := by
  obtain ⟨h1, h2, h3, h4, h5, h6, h7, h8⟩ := h
  have hp := h3.wpos h2 hne
  refine ⟨pow_bound (z := z) ?_ hz, hp⟩
  have h9 := v10_nonneg h6
  have h10 : 10 ^ ds.length * 1 ≤ 10 ^ ds.length * wv x := Int.mul_le_mul_of_nonneg_left (by omega) (Int.le_of_lt (t_pos _))
  omega
theorem take_snocD (l : List Int) (k : Nat) (h : k < l.length) : l.take (k + 1) = l.take k ++ [l.getD k 0] := by
  rw [List.take_succ_eq_append_getElem h]; simp [List.getD, h]
theorem text_back (w : World) (ds : List Int) (g cap B : Nat) (h : Ten ds) (hr : BRow w B g cap ((ds.map (48 + ·)).reverse)) :
    (convert 27 9 (.slice (some ⟨g, 0, none⟩) ds.length cap)).run Tryz.prog w = .ok (.string ⟨(ds.reverse.map byteOf).toArray⟩) w := by
  have hl : (ds.reverse.map byteOf).length = ds.length := by simp
  have := run_convert_bytes_back (P := Tryz.prog) w 27 9 5 ⟨g, 0, none⟩ cap (ds.reverse.map byteOf) Tryz.underlying27 Tryz.underlying5 Tryz.underlying9 (fun j hj => by
    have hc := (hr.facts.2.2.2.2 j (by simpa using hj)).1
    have hj2 : j < ds.reverse.length := by simpa using hj
    have e : ((ds.map (48 + ·)).reverse).getD j 0 = (((ds.reverse.map byteOf)[j]).toNat : Int) := by
      rw [List.getElem_map]
      have hm := h _ (List.mem_reverse.1 (List.getElem_mem hj2))
      rw [byteOf_toNat hm.1 hm.2]
      have e2 : ((ds.map (48 + ·)).reverse)[j]? = some (48 + ds.reverse[j]) := by
        rw [← List.map_reverse, List.getElem?_map, List.getElem?_eq_getElem hj2]; rfl
      rw [List.getD, e2]; rfl
    rw [e] at hc
    by_cases h0 : j = 0
    · subst h0; simpa [Addr.add] using hc
    · simpa [Addr.add, h0] using hc)
  rw [hl] at this
  exact this
end Go.Proofs.YtdnbjaeeebodkaaGreat
