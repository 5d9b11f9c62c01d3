/- Layer 11: the program's Get. -/
import Derived.Test.YtdnbjaeeebodkaaGreatSche
import Derived.Test.YtdnbjaeeebodkaaGreatBufl
namespace Go.Proofs.YtdnbjaeeebodkaaGreat
set_option maxRecDepth 100000
open Go.RowKit
set_option linter.unusedVariables false
/-- A number of at most most is read: its value, the position and the error behind it. -/
def stU (b : List Int) (most : Int) (s : Nat × Nat) : Int × Nat × Nat :=
  if s.2 = 0 then ((uN most (getU (b.drop s.1))).1, if (uN most (getU (b.drop s.1))).2.2 = 0 then s.1 + (uN most (getU (b.drop s.1))).2.1 else s.1, (uN most (getU (b.drop s.1))).2.2) else (0, s)
def stT (b : List Int) (most : Int) (s : Nat × Nat) : List Int × Nat × Nat :=
  if s.2 = 0 then ((tN most (getT (b.drop s.1) [] 0)).1, if (tN most (getT (b.drop s.1) [] 0)).2.2 = 0 then s.1 + (tN most (getT (b.drop s.1) [] 0)).2.1 else s.1, (tN most (getT (b.drop s.1) [] 0)).2.2) else ([], s)
/-- The state of a reader that may be. -/
def OkSt (b : List Int) (s : Nat × Nat) : Prop := s.1 ≤ b.length ∧ s.2 < 9
theorem stU_st {b : List Int} (hb : Bt b) (most : Int) {s : Nat × Nat} (h : OkSt b s) : OkSt b (stU b most s).2 := by
  unfold stU
  split
  · have := uN_fit most (hb.drop s.1)
    refine ⟨?_, this.1⟩
    simp only
    split
    · rename_i h0
      have h1 := this.2.1 h0
      have h2 := h.1
      rw [List.length_drop] at h1
      omega
    · exact h.1
  · exact h
theorem stT_st {b : List Int} (most : Int) {s : Nat × Nat} (h : OkSt b s) : OkSt b (stT b most s).2 := by
  unfold stT
  split
  · have := tN_fit most (b := b.drop s.1)
    refine ⟨?_, this.1⟩
    simp only
    split
    · rename_i h0
      have h1 := this.2.1 h0
      have h2 := h.1
      rw [List.length_drop] at h1
      omega
    · exact h.1
  · exact h
theorem stU_val {b : List Int} (hb : Bt b) {most : Int} (h0 : 0 ≤ most) (s : Nat × Nat) : 0 ≤ (stU b most s).1 ∧ (stU b most s).1 ≤ most := by
  unfold stU
  split
  · have h1 := uN_fit most (hb.drop s.1)
    have h2 := getU_fit (hb.drop s.1)
    simp only
    by_cases he : (uN most (getU (b.drop s.1))).2.2 = 0
    · unfold uN at he ⊢
      split
      · simp [h0]
      · rename_i hn
        rw [if_neg hn] at he
        have := h2.1 he
        exact ⟨this.2.1, by
          by_cases q : most < (getU (b.drop s.1)).1
          · exact absurd ⟨he, q⟩ hn
          · omega⟩
    · rw [h1.2.2 he]; exact ⟨Int.le_refl _, h0⟩
  · exact ⟨Int.le_refl _, h0⟩
theorem getT_bt : ∀ (b acc : List Int) (i : Nat), Bt b → Bt acc → Bt (getT b acc i).1
  | [], acc, i, _, _ => bt_nil
  | [c], acc, i, _, _ => bt_nil
  | c :: d :: t, acc, i, hb, ha => by
    by_cases h : c = 0
    · subst h
      by_cases h0 : d = 0
      · subst h0; rw [getT_stop]; exact ha
      · by_cases h1 : d = 1
        · subst h1; rw [getT_zero]; exact getT_bt t _ _ hb.tail.tail (ha.append (Bt.cons (by decide) (by decide) bt_nil))
        · rw [getT_bad h0 h1]; exact bt_nil
    · rw [getT_char h]; exact getT_bt (d :: t) _ _ hb.tail (ha.append (Bt.cons hb.head.1 hb.head.2 bt_nil))
theorem stT_val {b : List Int} (hb : Bt b) {most : Int} (h0 : 0 ≤ most) (s : Nat × Nat) : Bt (stT b most s).1 ∧ ((stT b most s).1.length : Int) ≤ most := by
  unfold stT
  split
  · have h1 := tN_fit most (b := b.drop s.1)
    simp only
    refine ⟨?_, ?_⟩
    · unfold tN
      split
      · exact bt_nil
      · exact getT_bt _ _ _ (hb.drop _) bt_nil
    · by_cases he : (tN most (getT (b.drop s.1) [] 0)).2.2 = 0
      · unfold tN at he ⊢
        split
        · simp [h0]
        · rename_i hn
          rw [if_neg hn] at he
          by_cases q : max most 0 < ((getT (b.drop s.1) [] 0).1.length : Int)
          · exact absurd ⟨he, q⟩ hn
          · omega
      · rw [h1.2.2 he]; simpa using h0
  · exact ⟨bt_nil, by simpa using h0⟩
/-- So many dimensions, texts, sets are read. -/
def dimsK (b : List Int) (s : Nat × Nat) : Nat → List (ByteArray × Int) × Nat × Nat
  | 0 => ([], s)
  | k + 1 => ((dimsK b s k).1 ++ [(strB (stT b 16 (dimsK b s k).2).1, (stU b 4096 (stT b 16 (dimsK b s k).2).2).1)], (stU b 4096 (stT b 16 (dimsK b s k).2).2).2)
def textsK (b : List Int) (s : Nat × Nat) : Nat → List ByteArray × Nat × Nat
  | 0 => ([], s)
  | k + 1 => ((textsK b s k).1 ++ [strB (stT b 16 (textsK b s k).2).1], (stT b 16 (textsK b s k).2).2)
def setsK (b : List Int) (s : Nat × Nat) : Nat → List Int × Nat × Nat
  | 0 => ([], s)
  | k + 1 => ((setsK b s k).1 ++ [(stU b 4294967295 (setsK b s k).2).1], (stU b 4294967295 (setsK b s k).2).2)
theorem dimsK_st {b : List Int} (hb : Bt b) {s : Nat × Nat} (h : OkSt b s) : ∀ k, OkSt b (dimsK b s k).2 ∧ (dimsK b s k).1.length = k
  | 0 => ⟨h, rfl⟩
  | k + 1 => ⟨stU_st hb _ (stT_st _ (dimsK_st hb h k).1), by simp [dimsK, (dimsK_st hb h k).2]⟩
theorem textsK_st {b : List Int} {s : Nat × Nat} (h : OkSt b s) : ∀ k, OkSt b (textsK b s k).2 ∧ (textsK b s k).1.length = k
  | 0 => ⟨h, rfl⟩
  | k + 1 => ⟨stT_st _ (textsK_st h k).1, by simp [textsK, (textsK_st h k).2]⟩
theorem setsK_st {b : List Int} (hb : Bt b) {s : Nat × Nat} (h : OkSt b s) : ∀ k, OkSt b (setsK b s k).2 ∧ (setsK b s k).1.length = k
  | 0 => ⟨h, rfl⟩
  | k + 1 => ⟨stU_st hb _ (setsK_st hb h k).1, by simp [setsK, (setsK_st hb h k).2]⟩
/-- The numbers of elements, as they are read. -/
def numD (b : List Int) : Int × Nat × Nat := stU b 6 (0, 0)
def rdD (b : List Int) : List (ByteArray × Int) × Nat × Nat := dimsK b (numD b).2 (numD b).1.toNat
def numI (b : List Int) : Int × Nat × Nat := stU b 3 (rdD b).2
def rdI (b : List Int) : List ByteArray × Nat × Nat := textsK b (numI b).2 (numI b).1.toNat
def numN (b : List Int) : Int × Nat × Nat := stU b 2 (rdI b).2
def rdN (b : List Int) : List ByteArray × Nat × Nat := textsK b (numN b).2 (numN b).1.toNat
def numV (b : List Int) : Int × Nat × Nat := stU b 15 (rdN b).2
def rdV (b : List Int) : List Int × Nat × Nat := setsK b (numV b).2 (numV b).1.toNat
def rdS (b : List Int) : Sc := ⟨(rdD b).1, (rdI b).1, (rdN b).1, (rdV b).1⟩
/-- The error at the end. -/
def endE (b : List Int) (s : Nat × Nat) : Nat := if s.2 = 0 ∧ s.1 < b.length then 7 else s.2
def getE (b : List Int) : Nat := if endE b (rdV b).2 ≠ 0 then endE b (rdV b).2 else checkL (rdS b)
def zeroS : Sc := ⟨[], [], [], []⟩
def getS (b : List Int) : Sc := if getE b = 0 then rdS b else zeroS
theorem rd_st {b : List Int} (hb : Bt b) : OkSt b (numD b).2 ∧ OkSt b (rdD b).2 ∧ OkSt b (numI b).2 ∧ OkSt b (rdI b).2 ∧ OkSt b (numN b).2 ∧ OkSt b (rdN b).2 ∧ OkSt b (numV b).2 ∧ OkSt b (rdV b).2 := by
  have h1 : OkSt b (numD b).2 := stU_st hb _ ⟨Nat.zero_le _, by decide⟩
  have h2 : OkSt b (rdD b).2 := (dimsK_st hb h1 _).1
  have h3 : OkSt b (numI b).2 := stU_st hb _ h2
  have h4 : OkSt b (rdI b).2 := (textsK_st h3 _).1
  have h5 : OkSt b (numN b).2 := stU_st hb _ h4
  have h6 : OkSt b (rdN b).2 := (textsK_st h5 _).1
  have h7 : OkSt b (numV b).2 := stU_st hb _ h6
  exact ⟨h1, h2, h3, h4, h5, h6, h7, (setsK_st hb h7 _).1⟩
theorem num_range {b : List Int} (hb : Bt b) : (0 ≤ (numD b).1 ∧ (numD b).1 ≤ 6) ∧ (0 ≤ (numI b).1 ∧ (numI b).1 ≤ 3) ∧ (0 ≤ (numN b).1 ∧ (numN b).1 ≤ 2) ∧ (0 ≤ (numV b).1 ∧ (numV b).1 ≤ 15) :=
  ⟨stU_val hb (by decide) _, stU_val hb (by decide) _, stU_val hb (by decide) _, stU_val hb (by decide) _⟩
theorem rdD_len {b : List Int} (hb : Bt b) : (rdD b).1.length = (numD b).1.toNat := (dimsK_st hb (rd_st hb).1 _).2
theorem rdI_len {b : List Int} (hb : Bt b) : (rdI b).1.length = (numI b).1.toNat := (textsK_st (rd_st hb).2.2.1 _).2
theorem rdN_len {b : List Int} (hb : Bt b) : (rdN b).1.length = (numN b).1.toNat := (textsK_st (rd_st hb).2.2.2.2.1 _).2
theorem rdV_len {b : List Int} (hb : Bt b) : (rdV b).1.length = (numV b).1.toNat := (setsK_st hb (rd_st hb).2.2.2.2.2.2.1 _).2
theorem dimsK_wf {b : List Int} (hb : Bt b) (s : Nat × Nat) : ∀ k, ∀ d ∈ (dimsK b s k).1, d.1.size ≤ 16 ∧ 0 ≤ d.2 ∧ d.2 ≤ 4096
  | 0, d, h => by simp [dimsK] at h
  | k + 1, d, h => by
    rw [dimsK, List.mem_append] at h
    rcases h with h | h
    · exact dimsK_wf hb s k d h
    · obtain rfl := List.mem_singleton.1 h
      have h1 := stT_val hb (most := 16) (by decide) (dimsK b s k).2
      have h2 := stU_val hb (most := 4096) (by decide) (stT b 16 (dimsK b s k).2).2
      refine ⟨?_, h2⟩
      rw [strB_size]; omega
theorem textsK_wf {b : List Int} (hb : Bt b) (s : Nat × Nat) : ∀ k, ∀ d ∈ (textsK b s k).1, d.size ≤ 16
  | 0, d, h => by simp [textsK] at h
  | k + 1, d, h => by
    rw [textsK, List.mem_append] at h
    rcases h with h | h
    · exact textsK_wf hb s k d h
    · obtain rfl := List.mem_singleton.1 h
      have h1 := stT_val hb (most := 16) (by decide) (textsK b s k).2
      rw [strB_size]; omega
theorem setsK_wf {b : List Int} (hb : Bt b) (s : Nat × Nat) : ∀ k, ∀ d ∈ (setsK b s k).1, 0 ≤ d ∧ d ≤ 4294967295
  | 0, d, h => by simp [setsK] at h
  | k + 1, d, h => by
    rw [setsK, List.mem_append] at h
    rcases h with h | h
    · exact setsK_wf hb s k d h
    · obtain rfl := List.mem_singleton.1 h
      exact stU_val hb (by decide) _
theorem rdS_wf {b : List Int} (hb : Bt b) : SWf (rdS b) := by
  refine ⟨fun d h => ?_, fun s h => ?_, fun s h => ?_, fun v h => setsK_wf hb _ _ v h⟩
  · have := dimsK_wf hb _ _ d h
    refine ⟨by unfold maxLen; omega, by omega, by omega⟩
  · have := textsK_wf hb _ _ s h
    unfold maxLen; omega
  · have := textsK_wf hb _ _ s h
    unfold maxLen; omega
theorem getE_le {b : List Int} (hb : Bt b) : getE b ≤ 9 := by
  have h := (rd_st hb).2.2.2.2.2.2.2
  have h2 := h.2
  have h3 := check_le (rdS b)
  unfold getE endE
  repeat' split
  all_goals omega
set_option maxRecDepth 100000
open Go.RowKit
set_option linter.unusedVariables false
theorem inU_st (w : World) (N : Nat) (b : List Int) (s : Nat × Nat) (most : Int) (h : InAt w N b s.1 s.2) (h9 : s.2 < 9) :
    Calls Tryz.prog 14 #[.pointer (some ⟨N, 0, none⟩), .int .u64 most] w fun r w' => r = .returned (.int .u64 (stU b most s).1) ∧ InAt w' N b (stU b most s).2.1 (stU b most s).2.2 ∧ w.grownBy w' (some N) := by
  obtain ⟨p, e⟩ := s
  simp only at h h9
  unfold stU
  by_cases he : e = 0
  · subst he
    rw [if_pos rfl]
    refine (inU_any w N b p most h).mono ?_
    rintro r w' ⟨⟨v, rfl, rfl⟩, h2, h3⟩
    exact ⟨rfl, h2, h3⟩
  · rw [if_neg he]
    refine (inU_shut w _ e most (h.shut he (by omega))).mono ?_
    rintro r w' ⟨rfl, hb⟩
    exact ⟨rfl, h.below hb, grown_below hb _⟩
theorem cell_grown {w w' : World} {N : Nat} {a : Addr} {v : Value} (hg : w.grownBy w' (some N)) (h : w.cell? a = some v) (hne : a.block ≠ N) : w'.cell? a = some v := by
  rw [hg.cell_far a (World.block_lt_of_cell? w a h) (by simpa using hne)]; exact h
theorem grown_own {a b c : World} {N K : Nat} (h : a.grownBy b (some N)) (k : b.grownBy c (some K)) (hK : a.heap.size ≤ K) : a.grownBy c (some N) :=
  ⟨k.os.trans h.os, k.tape.trans h.tape, k.output.trans h.output, Nat.le_trans h.size k.size, fun i hi hn => (k.block i (Nat.lt_of_lt_of_le hi h.size) (fun e => by have e2 := Option.some.inj e; omega)).trans (h.block i hi hn)⟩
/-- A reader stays where another block changes. -/
theorem InAt.far {w w' : World} {N K : Nat} {b : List Int} {p e : Nat} {cur : Array Value} {T : TypeId} {fr : Nat × Nat} (h : InAt w N b p e) (hp : w.heap[K]? = some (.cells cur T fr)) (hT : T ≠ 5) (hne : N ≠ K) (hg : w.grownBy w' (some K)) : InAt w' N b p e := by
  obtain ⟨v, h1, h2, h3, h4⟩ := h
  refine ⟨v, ?_, h2.grown h3 hp hT hg, h3.grown hp hT hg, h4⟩
  unfold In4
  rw [hg.block N h1.lt (by simpa using hne)]
  exact h1
/-- A block of a dimension. -/
def Dim2 (w : World) (K : Nat) (x : ByteArray) (z : Int) : Prop := w.heap[K]? = some (.cells #[.string x, .int .i64 z] 41 (0, 0))
theorem Dim2.reads {w : World} {K : Nat} {x : ByteArray} {z : Int} (h : Dim2 w K x z) : w.cell? ⟨K, 0, none⟩ = some (.string x) ∧ w.cell? ⟨K, 1, none⟩ = some (.int .i64 z) ∧ w.frozen? ⟨K, 0, none⟩ = false ∧ w.frozen? ⟨K, 1, none⟩ = false := by
  unfold Dim2 at h
  refine ⟨by simp [World.cell?, h], by simp [World.cell?, h], by simp [World.frozen?, h], by simp [World.frozen?, h]⟩
theorem Dim2.lt {w : World} {K : Nat} {x : ByteArray} {z : Int} (h : Dim2 w K x z) : K < w.heap.size := (Array.getElem?_eq_some_iff.1 h).1
theorem Dim2.grown {w w' : World} {K N : Nat} {x : ByteArray} {z : Int} (h : Dim2 w K x z) (hg : w.grownBy w' (some N)) (hne : K ≠ N) : Dim2 w' K x z := by
  unfold Dim2; rw [hg.block K h.lt (by simpa using hne)]; exact h
theorem Dim2.set0 {w : World} {K : Nat} {x y : ByteArray} {z : Int} (h : Dim2 w K x z) : Dim2 (w.setCell ⟨K, 0, none⟩ (.string y)) K y z := heap_setCell_same w K 0 _ _ (.string y) h
theorem Dim2.set1 {w : World} {K : Nat} {x : ByteArray} {z y : Int} (h : Dim2 w K x z) : Dim2 (w.setCell ⟨K, 1, none⟩ (.int .i64 y)) K x y := heap_setCell_same w K 1 _ _ (.int .i64 y) h
theorem Dim2.low {w w' : World} {K : Nat} {x : ByteArray} {z : Int} (h : Dim2 w K x z) (hb : Below w.heap.size w w') : Dim2 w' K x z := by
  unfold Dim2; rw [hb.block K h.lt]; exact h
set_option maxRecDepth 100000
open Go.RowKit
set_option linter.unusedVariables false
theorem grown_row {a b c : World} {N : Nat} {row : Option Nat} (h : a.grownBy b (some N)) (k : b.grownBy c row) (hr : ∀ g, row = some g → a.heap.size ≤ g) : a.grownBy c (some N) :=
  ⟨k.os.trans h.os, k.tape.trans h.tape, k.output.trans h.output, Nat.le_trans h.size k.size, fun i hi hn => (k.block i (Nat.lt_of_lt_of_le hi h.size) (fun e => by have e2 := hr i e.symm; omega)).trans (h.block i hi hn)⟩
theorem own_far {w w' : World} {B E sz n N : Nat} {v : Value} {xs : List Value} (h : w.ownsRow B E sz v n xs) (hg : w.grownBy w' (some N)) (hN : N < B) : w'.ownsRow B E sz v n xs := by
  refine h.kept hg ?_
  cases hv : v.ownBlock with
  | none => exact .inl rfl
  | some g => right; intro e; have e2 := Option.some.inj e; have := (h.lt g hv).1; omega
theorem InAt.own {w w' : World} {N : Nat} {b : List Int} {p e B E sz n : Nat} {v : Value} {xs : List Value} (h : InAt w N b p e) (ho : w.ownsRow B E sz v n xs) (hE : E ≠ 5) (hN : N < B) (hg : w.grownBy w' v.ownBlock) : InAt w' N b p e := by
  rcases ho.2 with ⟨rfl, -⟩ | ⟨g, cap, cur, rfl, h2, h3, -⟩
  · exact h.below ((Below.refl _ _).grown hg (Nat.le_refl _) (fun k hk => by simp [Value.ownBlock] at hk))
  · exact h.far h3 hE (by omega) hg
/-- A slice of dimensions of the call's own. -/
def cellsD (ds : List (ByteArray × Int)) : List Value := ds.flatMap fun d => [.string d.1, .int .i64 d.2]
abbrev DOwn (w : World) (B : Nat) (v : Value) (ds : List (ByteArray × Int)) : Prop := w.ownsRow B 41 2 v ds.length (cellsD ds)
theorem cellsD_snoc (ds : List (ByteArray × Int)) (x : ByteArray) (z : Int) : cellsD ds ++ [.string x, .int .i64 z] = cellsD (ds ++ [(x, z)]) := by simp [cellsD]
theorem cellsD_get : ∀ (ds : List (ByteArray × Int)) (i : Nat), i < ds.length → (cellsD ds)[i * 2]? = some (.string (dn ds i)) ∧ (cellsD ds)[i * 2 + 1]? = some (.int .i64 (dz ds i))
  | [], i, h => by simp at h
  | d :: ds, 0, _ => by simp [cellsD, dn, dz]
  | d :: ds, i + 1, h => by
    have ih := cellsD_get ds i (by simpa using h)
    have e : cellsD (d :: ds) = .string d.1 :: .int .i64 d.2 :: cellsD ds := by simp [cellsD]
    have e1 : (i + 1) * 2 = i * 2 + 1 + 1 := by omega
    rw [e, e1]
    simp only [List.getElem?_cons_succ]
    refine ⟨ih.1.trans ?_, ih.2.trans ?_⟩
    · simp [dn]
    · simp [dz]
theorem own_slices {w : World} {B E sz n : Nat} {v : Value} {xs : List Value} (h : w.ownsRow B E sz v n xs) : ∃ a c, v = .slice a n c := by
  rcases h.2 with ⟨rfl, rfl⟩ | ⟨g, cap, cur, rfl, -⟩
  · exact ⟨_, _, rfl⟩
  · exact ⟨_, _, rfl⟩
theorem own_any {w : World} {B E sz n : Nat} {v : Value} {xs : List Value} (h : w.ownsRow B E sz v n xs) : ∃ a l c, v = .slice a l c := by
  obtain ⟨a, c, e⟩ := own_slices h
  exact ⟨a, n, c, e⟩
theorem Dims.own {w : World} {B : Nat} {v : Value} {ds : List (ByteArray × Int)} (h : DOwn w B v ds) : Dims w v ds := by
  obtain ⟨hl, h⟩ := h
  rcases h with ⟨rfl, h0⟩ | ⟨g, cap, cur, rfl, _, hb, hnc, hm, hs, ht⟩
  · have : ds = [] := List.length_eq_zero_iff.1 h0
    subst this
    exact ⟨none, 0, rfl, by simp, by simp, .inl rfl⟩
  · refine ⟨_, cap, rfl, hnc, by unfold maxLen at hm; omega, .inr ⟨g, 0, rfl, (Array.getElem?_eq_some_iff.1 hb).1, fun i hi => ?_⟩⟩
    obtain ⟨c0, c1⟩ := cellsD_get ds i hi
    rw [← ht, List.getElem?_take, if_pos (by omega)] at c0 c1
    refine ⟨?_, ?_⟩
    · rw [Nat.zero_add, cell_of_row _ _ (i * 2) _ _ (0, 0) hb]
      simpa using c0
    · rw [Nat.zero_add, cell_of_row _ _ (i * 2 + 1) _ _ (0, 0) hb]
      simpa using c1
theorem ints_one' {k : IntKind} {w : World} {x : Int} {T : TypeId} {N : Nat} (hN : w.heap.size = N) : Ints k (w.alloc (.cells #[.int k x] T)) (.slice (some ⟨N, 0, none⟩) 1 1) [x] := by
  subst hN
  refine ⟨_, _, rfl, Nat.le_refl _, .inr ⟨w.heap.size, 0, rfl, by simp, fun i hi => ?_⟩⟩
  have h0 : i = 0 := by simp at hi; omega
  subst h0
  simp [go_sem]
theorem dims_snoc {w : World} {B : Nat} {v : Value} {q : List (ByteArray × Int)} {x : ByteArray} {z : Int} (h : w.ownsRow B 41 2 v (q.length + 1) (cellsD q ++ [.string x, .int .i64 z])) : DOwn w B v (q ++ [(x, z)]) := by
  rw [cellsD_snoc] at h
  unfold DOwn
  rw [List.length_append]
  exact h
theorem zcells_dim : (Value.agg #[.string ⟨#[]⟩, .int .i64 0]).cells.size = 2 := by simp [Value.cells]
theorem dim_cells2 (w : World) (x : ByteArray) (z : Int) : ∀ j u, [Value.string x, .int .i64 z][j]? = some u → (w.alloc (.cells #[.string x, .int .i64 z] 41)).cell? ((⟨w.heap.size, 0, none⟩ : Addr).add j) = some u := by
  intro j u hj
  have hl := (List.getElem?_eq_some_iff.1 hj).1
  have hl2 : j < 2 := hl
  rcases (by omega : j = 0 ∨ j = 1) with rfl | rfl
  · simpa [Addr.add, go_sem] using hj
  · simpa [Addr.add, go_sem] using hj
set_option maxRecDepth 100000
open Go.RowKit
set_option linter.unusedVariables false
theorem Box.set0 {w : World} {K : Nat} {D I M V u : Value} (h : Box w K D I M V) : Box (w.setCell ⟨K, 0, none⟩ u) K u I M V := heap_setCell_same w K 0 _ _ u h
theorem Box.set1 {w : World} {K : Nat} {D I M V u : Value} (h : Box w K D I M V) : Box (w.setCell ⟨K, 1, none⟩ u) K D u M V := heap_setCell_same w K 1 _ _ u h
theorem Box.set2 {w : World} {K : Nat} {D I M V u : Value} (h : Box w K D I M V) : Box (w.setCell ⟨K, 2, none⟩ u) K D I u V := heap_setCell_same w K 2 _ _ u h
theorem Box.set3 {w : World} {K : Nat} {D I M V u : Value} (h : Box w K D I M V) : Box (w.setCell ⟨K, 3, none⟩ u) K D I M u := heap_setCell_same w K 3 _ _ u h
theorem Box.free {w : World} {N : Nat} {D I M V : Value} (h : Box w N D I M V) : w.frozen? ⟨N, 0, none⟩ = false ∧ w.frozen? ⟨N, 1, none⟩ = false ∧ w.frozen? ⟨N, 2, none⟩ = false ∧ w.frozen? ⟨N, 3, none⟩ = false := by
  unfold Box at h
  refine ⟨by simp [World.frozen?, h], by simp [World.frozen?, h], by simp [World.frozen?, h], by simp [World.frozen?, h]⟩
theorem Box.grown {w w' : World} {K N : Nat} {D I M V : Value} (h : Box w K D I M V) (hg : w.grownBy w' (some N)) (hne : K ≠ N) : Box w' K D I M V := by
  unfold Box; rw [hg.block K h.lt (by simpa using hne)]; exact h
theorem own_low {w : World} {B B' E sz n : Nat} {v : Value} {xs : List Value} (h : w.ownsRow B E sz v n xs) (hb : B' ≤ B) : w.ownsRow B' E sz v n xs := by
  refine ⟨h.1, ?_⟩
  rcases h.2 with h0 | ⟨g, cap, cur, h1, h2, h3⟩
  · exact .inl h0
  · exact .inr ⟨g, cap, cur, h1, Nat.le_trans hb h2, h3⟩
/-- What stands in memory while a schema is read: the reader, the variable that the closures hold, the result's cells, the schema's cells. -/
structure Rd (w wr : World) (N : Nat) (b : List Int) (s : Nat × Nat) (D I M V : Value) : Prop where
  i : InAt wr N b s.1 s.2
  m : wr.cell? ⟨w.heap.size, 0, none⟩ = some (.pointer (some ⟨N, 0, none⟩))
  r : Box wr (w.heap.size + 1) (.slice none 0 0) (.slice none 0 0) (.slice none 0 0) (.slice none 0 0)
  k : Box wr (w.heap.size + 1 + 1) D I M V
  g : w.grownBy wr (some N)
  sz : w.heap.size + 3 ≤ wr.heap.size
theorem Rd.call {w wr w1 : World} {N : Nat} {b : List Int} {s t : Nat × Nat} {D I M V : Value} (h : Rd w wr N b s D I M V) (hN : N < w.heap.size) (hi : InAt w1 N b t.1 t.2) (hg : wr.grownBy w1 (some N)) : Rd w w1 N b t D I M V :=
  ⟨hi, cell_grown hg h.m (by show w.heap.size ≠ N; omega), h.r.grown hg (by omega), h.k.grown hg (by omega), grown_then h.g hg, Nat.le_trans h.sz hg.size⟩
theorem Rd.stay {w wr w1 : World} {N : Nat} {b : List Int} {s : Nat × Nat} {D I M V D' I' M' V' : Value} (h : Rd w wr N b s D I M V) (hN : N < w.heap.size) (hk : Box w1 (w.heap.size + 1 + 1) D' I' M' V') (hg : wr.grownBy w1 (some (w.heap.size + 1 + 1))) : Rd w w1 N b s D' I' M' V' :=
  ⟨h.i.far h.k (by decide) (by omega) hg, cell_grown hg h.m (by show w.heap.size ≠ _; omega), h.r.grown hg (by omega), hk, grown_own h.g hg (by omega), Nat.le_trans h.sz hg.size⟩
theorem three_alloc (w : World) (o1 o2 o3 : Obj) : Below w.heap.size w (((w.alloc o1).alloc o2).alloc o3) := below_then (below_then (below_one w o1) (below_one _ o2)) (below_one _ o3)
theorem rd_start (w : World) (N : Nat) (b : List Int) (s : Nat × Nat) (h : InAt w N b s.1 s.2) : Rd w (((w.alloc (.cells #[.pointer (some ⟨N, 0, none⟩)] 50)).alloc (SchO (.slice none 0 0) (.slice none 0 0) (.slice none 0 0) (.slice none 0 0))).alloc (SchO (.slice none 0 0) (.slice none 0 0) (.slice none 0 0) (.slice none 0 0))) N b s (.slice none 0 0) (.slice none 0 0) (.slice none 0 0) (.slice none 0 0) := by
  have hb := three_alloc w (.cells #[.pointer (some ⟨N, 0, none⟩)] 50) (SchO (.slice none 0 0) (.slice none 0 0) (.slice none 0 0) (.slice none 0 0)) (SchO (.slice none 0 0) (.slice none 0 0) (.slice none 0 0) (.slice none 0 0))
  have z1 : (w.alloc (.cells #[.pointer (some ⟨N, 0, none⟩)] 50)).heap.size = w.heap.size + 1 := by simp
  have z2 : ((w.alloc (.cells #[.pointer (some ⟨N, 0, none⟩)] 50)).alloc (SchO (.slice none 0 0) (.slice none 0 0) (.slice none 0 0) (.slice none 0 0))).heap.size = w.heap.size + 1 + 1 := by simp
  have k1 := box_new (w.alloc (.cells #[.pointer (some ⟨N, 0, none⟩)] 50)) (.slice none 0 0) (.slice none 0 0) (.slice none 0 0) (.slice none 0 0)
  have k2 := box_new ((w.alloc (.cells #[.pointer (some ⟨N, 0, none⟩)] 50)).alloc (SchO (.slice none 0 0) (.slice none 0 0) (.slice none 0 0) (.slice none 0 0))) (.slice none 0 0) (.slice none 0 0) (.slice none 0 0) (.slice none 0 0)
  have k0 : (w.alloc (.cells #[.pointer (some ⟨N, 0, none⟩)] 50)).cell? ⟨w.heap.size, 0, none⟩ = some (.pointer (some ⟨N, 0, none⟩)) := by simp [go_sem]
  rw [z1] at k1
  rw [z2] at k2
  exact ⟨h.below hb, cell_hold (below_then (below_one _ _) (below_one _ _)) k0, k1.below (below_one _ _), k2, grown_below hb _, by simp⟩
/-- A schema of the call's own. -/
structure Own4 (w : World) (B : Nat) (D I M V : Value) (S : Sc) : Prop where
  d : DOwn w B D S.ds
  i : SOwn w B I S.is
  n : SOwn w B M S.ns
  v : UOwn w B V S.vs
theorem Own4.far {w w' : World} {B N : Nat} {D I M V : Value} {S : Sc} (h : Own4 w B D I M V S) (hg : w.grownBy w' (some N)) (hN : N < B) : Own4 w' B D I M V S := ⟨own_far h.d hg hN, own_far h.i hg hN, own_far h.n hg hN, own_far h.v hg hN⟩
theorem Own4.sch {w : World} {B : Nat} {D I M V : Value} {S : Sc} (h : Own4 w B D I M V S) : Sch4 w D I M V S := ⟨Dims.own h.d, Strs.own h.i, Strs.own h.n, Ints.own h.v⟩
theorem Own4.alloc {w : World} {B : Nat} {D I M V : Value} {S : Sc} (h : Own4 w B D I M V S) (o : Obj) : Own4 (w.alloc o) B D I M V S := ⟨h.d.alloc o, h.i.alloc o, h.n.alloc o, h.v.alloc o⟩
theorem Own4.slices {w : World} {B : Nat} {D I M V : Value} {S : Sc} (h : Own4 w B D I M V S) : (∃ a l c, D = .slice a l c) ∧ (∃ a l c, I = .slice a l c) ∧ (∃ a l c, M = .slice a l c) ∧ ∃ a l c, V = .slice a l c := ⟨own_any h.d, own_any h.i, own_any h.n, own_any h.v⟩
def MadeSch (w w' : World) (N : Nat) (b : List Int) (S : Sc) (s : Nat × Nat) (r : Ending) : Prop := ∃ D I M V B, r = .returned (SchV D I M V) ∧ Own4 w' B D I M V S ∧ N < B ∧ InAt w' N b s.1 s.2 ∧ w.grownBy w' (some N)
set_option maxRecDepth 100000
open Go.RowKit
set_option linter.unusedVariables false
theorem end_st (w : World) (N : Nat) (b : List Int) (s : Nat × Nat) (h : InAt w N b s.1 s.2) (h9 : s.2 < 9) :
    Calls Tryz.prog 17 #[.pointer (some ⟨N, 0, none⟩)] w fun r w' => r = .returned (.int .i64 (endE b s)) ∧ w.grownBy w' (some N) := by
  obtain ⟨p, e⟩ := s
  simp only at h h9
  unfold endE
  by_cases he : e = 0
  · subst he
    by_cases hp : p < b.length
    · rw [if_pos ⟨rfl, hp⟩]
      refine (end_more w N b p h hp).mono ?_
      rintro r w' ⟨rfl, -, h3⟩
      exact ⟨rfl, h3⟩
    · rw [if_neg (fun q => hp q.2)]
      refine (end_ok w N b p h (by omega)).mono ?_
      rintro r w' ⟨rfl, -, h3⟩
      exact ⟨rfl, grown_below h3 _⟩
  · rw [if_neg (fun q => he q.1)]
    refine (end_shut w _ e (h.shut he (by omega))).mono ?_
    rintro r w' ⟨rfl, rfl⟩
    exact ⟨rfl, World.grownBy.refl w _⟩
theorem zero_sch (w : World) : Sch4 w (.slice none 0 0) (.slice none 0 0) (.slice none 0 0) (.slice none 0 0) zeroS :=
  ⟨⟨none, 0, rfl, by simp [zeroS], by simp [zeroS], .inl rfl⟩, ⟨none, 0, rfl, by simp [zeroS], by simp [zeroS], .inl rfl⟩, ⟨none, 0, rfl, by simp [zeroS], by simp [zeroS], .inl rfl⟩, ⟨none, 0, rfl, by simp [zeroS], .inl rfl⟩⟩
/-- What getting leaves. -/
def GotS (w w' : World) (b : List Int) (r : Ending) : Prop := ∃ D I M V, r = .returned (.tuple #[SchV D I M V, .int .i64 (getE b)]) ∧ Sch4 w' D I M V (getS b) ∧ Below w.heap.size w w'
end Go.Proofs.YtdnbjaeeebodkaaGreat
