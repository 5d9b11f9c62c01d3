/- Layer 11: the program's Get. -/
import Derived.Test.YtdlebcjkokabjaaSche
import Derived.Test.YtdlebcjkokabjaaBufj
namespace Go.Proofs.Ytdlebcjkokabjaa
set_option maxRecDepth 100000
open Go.RowKit
set_option linter.unusedVariables false
/-- A number of at most most is read: its value, the position and the error behind it. -/
def stU (b : List Int) (most : Int) (s : Nat × Nat) : Int × Nat × Nat :=
  if s.2 = 0 then ((uN most (getU (b.drop s.1))).1, if (uN most (getU (b.drop s.1))).2.2 = 0 then s.1 + (uN most (getU (b.drop s.1))).2.1 else s.1, (uN most (getU (b.drop s.1))).2.2) else (0, s)
def stT (b : List Int) (most : Int) (s : Nat × Nat) : List Int × Nat × Nat :=
  if s.2 = 0 then ((tN most (getT (b.drop s.1) [] 0)).1, if (tN most (getT (b.drop s.1) [] 0)).2.2 = 0 then s.1 + (tN most (getT (b.drop s.1) [] 0)).2.1 else s.1, (tN most (getT (b.drop s.1) [] 0)).2.2) else ([], s)
/-- The state of a reader that may be. -/
def OkSt (b : List Int) (s : Nat × Nat) : Prop := s.1 ≤ b.length ∧ s.2 < 9
theorem stU_st {b : List Int} (hb : Bt b) (most : Int) {s : Nat × Nat} (h : OkSt b s) : OkSt b (stU b most s).2 := by
  unfold stU
  split
  · have := uN_fit most (hb.drop s.1)
    refine ⟨?_, this.1⟩
    simp only
    split
    · rename_i h0
      have h1 := this.2.1 h0
      have h2 := h.1
      rw [List.length_drop] at h1
      omega
    · exact h.1
  · exact h
theorem stT_st {b : List Int} (most : Int) {s : Nat × Nat} (h : OkSt b s) : OkSt b (stT b most s).2 := by
  unfold stT
  split
  · have := tN_fit most (b := b.drop s.1)
    refine ⟨?_, this.1⟩
    simp only
    split
    · rename_i h0
      have h1 := this.2.1 h0
      have h2 := h.1
      rw [List.length_drop] at h1
      omega
    · exact h.1
  · exact h
theorem stU_val {b : List Int} (hb : Bt b) {most : Int} (h0 : 0 ≤ most) (s : Nat × Nat) : 0 ≤ (stU b most s).1 ∧ (stU b most s).1 ≤ most := by
  unfold stU
  split
  · have h1 := uN_fit most (hb.drop s.1)
    have h2 := getU_fit (hb.drop s.1)
    simp only
    by_cases he : (uN most (getU (b.drop s.1))).2.2 = 0
    · unfold uN at he ⊢
      split
      · simp [h0]
      · rename_i hn
        rw [if_neg hn] at he
        have := h2.1 he
        exact ⟨this.2.1, by
          by_cases q : most < (getU (b.drop s.1)).1
          · exact absurd ⟨he, q⟩ hn
          · omega⟩
    · rw [h1.2.2 he]; exact ⟨Int.le_refl _, h0⟩
  · exact ⟨Int.le_refl _, h0⟩
theorem getT_bt : ∀ (b acc : List Int) (i : Nat), Bt b → Bt acc → Bt (getT b acc i).1
  | [], acc, i, _, _ => bt_nil
  | [c], acc, i, _, _ => bt_nil
  | c :: d :: t, acc, i, hb, ha => by
    by_cases h : c = 0
    · subst h
      by_cases h0 : d = 0
      · subst h0; rw [getT_stop]; exact ha
      · by_cases h1 : d = 1
        · subst h1; rw [getT_zero]; exact getT_bt t _ _ hb.tail.tail (ha.append (Bt.cons (by decide) (by decide) bt_nil))
        · rw [getT_bad h0 h1]; exact bt_nil
    · rw [getT_char h]; exact getT_bt (d :: t) _ _ hb.tail (ha.append (Bt.cons hb.head.1 hb.head.2 bt_nil))
theorem stT_val {b : List Int} (hb : Bt b) {most : Int} (h0 : 0 ≤ most) (s : Nat × Nat) : Bt (stT b most s).1 ∧ ((stT b most s).1.length : Int) ≤ most := by
  unfold stT
  split
  · have h1 := tN_fit most (b := b.drop s.1)
    simp only
    refine ⟨?_, ?_⟩
    · unfold tN
      split
      · exact bt_nil
      · exact getT_bt _ _ _ (hb.drop _) bt_nil
    · by_cases he : (tN most (getT (b.drop s.1) [] 0)).2.2 = 0
      · unfold tN at he ⊢
        split
        · simp [h0]
        · rename_i hn
          rw [if_neg hn] at he
          by_cases q : max most 0 < ((getT (b.drop s.1) [] 0).1.length : Int)
          · exact absurd ⟨he, q⟩ hn
          · omega
      · rw [h1.2.2 he]; simpa using h0
  · exact ⟨bt_nil, by simpa using h0⟩
/-- So many dimensions, texts, sets are read. -/
def dimsK (b : List Int) (s : Nat × Nat) : Nat → List (ByteArray × Int) × Nat × Nat
  | 0 => ([], s)
  | k + 1 => ((dimsK b s k).1 ++ [(strB (stT b 16 (dimsK b s k).2).1, (stU b 4096 (stT b 16 (dimsK b s k).2).2).1)], (stU b 4096 (stT b 16 (dimsK b s k).2).2).2)
def textsK (b : List Int) (s : Nat × Nat) : Nat → List ByteArray × Nat × Nat
  | 0 => ([], s)
  | k + 1 => ((textsK b s k).1 ++ [strB (stT b 16 (textsK b s k).2).1], (stT b 16 (textsK b s k).2).2)
def setsK (b : List Int) (s : Nat × Nat) : Nat → List Int × Nat × Nat
  | 0 => ([], s)
  | k + 1 => ((setsK b s k).1 ++ [(stU b 4294967295 (setsK b s k).2).1], (stU b 4294967295 (setsK b s k).2).2)
theorem dimsK_st {b : List Int} (hb : Bt b) {s : Nat × Nat} (h : OkSt b s) : ∀ k, OkSt b (dimsK b s k).2 ∧ (dimsK b s k).1.length = k
  | 0 => ⟨h, rfl⟩
  | k + 1 => ⟨stU_st hb _ (stT_st _ (dimsK_st hb h k).1), by simp [dimsK, (dimsK_st hb h k).2]⟩
theorem textsK_st {b : List Int} {s : Nat × Nat} (h : OkSt b s) : ∀ k, OkSt b (textsK b s k).2 ∧ (textsK b s k).1.length = k
  | 0 => ⟨h, rfl⟩
  | k + 1 => ⟨stT_st _ (textsK_st h k).1, by simp [textsK, (textsK_st h k).2]⟩
theorem setsK_st {b : List Int} (hb : Bt b) {s : Nat × Nat} (h : OkSt b s) : ∀ k, OkSt b (setsK b s k).2 ∧ (setsK b s k).1.length = k
  | 0 => ⟨h, rfl⟩
  | k + 1 => ⟨stU_st hb _ (setsK_st hb h k).1, by simp [setsK, (setsK_st hb h k).2]⟩
/-- The numbers of elements, as they are read. -/
def numD (b : List Int) : Int × Nat × Nat := stU b 6 (0, 0)
def rdD (b : List Int) : List (ByteArray × Int) × Nat × Nat := dimsK b (numD b).2 (numD b).1.toNat
def numI (b : List Int) : Int × Nat × Nat := stU b 3 (rdD b).2
def rdI (b : List Int) : List ByteArray × Nat × Nat := textsK b (numI b).2 (numI b).1.toNat
def numN (b : List Int) : Int × Nat × Nat := stU b 2 (rdI b).2
def rdN (b : List Int) : List ByteArray × Nat × Nat := textsK b (numN b).2 (numN b).1.toNat
def numV (b : List Int) : Int × Nat × Nat := stU b 15 (rdN b).2
def rdV (b : List Int) : List Int × Nat × Nat := setsK b (numV b).2 (numV b).1.toNat
def rdS (b : List Int) : Sc := ⟨(rdD b).1, (rdI b).1, (rdN b).1, (rdV b).1⟩
/-- The error at the end. -/
def endE (b : List Int) (s : Nat × Nat) : Nat := if s.2 = 0 ∧ s.1 < b.length then 7 else s.2
def getE (b : List Int) : Nat := if endE b (rdV b).2 ≠ 0 then endE b (rdV b).2 else checkL (rdS b)
def zeroS : Sc := ⟨[], [], [], []⟩
def getS (b : List Int) : Sc := if getE b = 0 then rdS b else zeroS
theorem rd_st {b : List Int} (hb : Bt b) : OkSt b (numD b).2 ∧ OkSt b (rdD b).2 ∧ OkSt b (numI b).2 ∧ OkSt b (rdI b).2 ∧ OkSt b (numN b).2 ∧ OkSt b (rdN b).2 ∧ OkSt b (numV b).2 ∧ OkSt b (rdV b).2 := by
  have h1 : OkSt b (numD b).2 := stU_st hb _ ⟨Nat.zero_le _, by decide⟩
  have h2 : OkSt b (rdD b).2 := (dimsK_st hb h1 _).1
  have h3 : OkSt b (numI b).2 := stU_st hb _ h2
  have h4 : OkSt b (rdI b).2 := (textsK_st h3 _).1
  have h5 : OkSt b (numN b).2 := stU_st hb _ h4
  have h6 : OkSt b (rdN b).2 := (textsK_st h5 _).1
  have h7 : OkSt b (numV b).2 := stU_st hb _ h6
  exact ⟨h1, h2, h3, h4, h5, h6, h7, (setsK_st hb h7 _).1⟩
theorem num_range {b : List Int} (hb : Bt b) : (0 ≤ (numD b).1 ∧ (numD b).1 ≤ 6) ∧ (0 ≤ (numI b).1 ∧ (numI b).1 ≤ 3) ∧ (0 ≤ (numN b).1 ∧ (numN b).1 ≤ 2) ∧ (0 ≤ (numV b).1 ∧ (numV b).1 ≤ 15) :=
  ⟨stU_val hb (by decide) _, stU_val hb (by decide) _, stU_val hb (by decide) _, stU_val hb (by decide) _⟩
theorem rdD_len {b : List Int} (hb : Bt b) : (rdD b).1.length = (numD b).1.toNat := (dimsK_st hb (rd_st hb).1 _).2
theorem rdI_len {b : List Int} (hb : Bt b) : (rdI b).1.length = (numI b).1.toNat := (textsK_st (rd_st hb).2.2.1 _).2
theorem rdN_len {b : List Int} (hb : Bt b) : (rdN b).1.length = (numN b).1.toNat := (textsK_st (rd_st hb).2.2.2.2.1 _).2
theorem rdV_len {b : List Int} (hb : Bt b) : (rdV b).1.length = (numV b).1.toNat := (setsK_st hb (rd_st hb).2.2.2.2.2.2.1 _).2
theorem dimsK_wf {b : List Int} (hb : Bt b) (s : Nat × Nat) : ∀ k, ∀ d ∈ (dimsK b s k).1, d.1.size ≤ 16 ∧ 0 ≤ d.2 ∧ d.2 ≤ 4096
  | 0, d, h => by simp [dimsK] at h
  | k + 1, d, h => by
    rw [dimsK, List.mem_append] at h
    rcases h with h | h
    · exact dimsK_wf hb s k d h
    · obtain rfl := List.mem_singleton.1 h
      have h1 := stT_val hb (most := 16) (by decide) (dimsK b s k).2
      have h2 := stU_val hb (most := 4096) (by decide) (stT b 16 (dimsK b s k).2).2
      refine ⟨?_, h2⟩
      rw [strB_size]; omega
theorem textsK_wf {b : List Int} (hb : Bt b) (s : Nat × Nat) : ∀ k, ∀ d ∈ (textsK b s k).1, d.size ≤ 16
  | 0, d, h => by simp [textsK] at h
  | k + 1, d, h => by
    rw [textsK, List.mem_append] at h
    rcases h with h | h
    · exact textsK_wf hb s k d h
    · obtain rfl := List.mem_singleton.1 h
      have h1 := stT_val hb (most := 16) (by decide) (textsK b s k).2
      rw [strB_size]; omega
theorem setsK_wf {b : List Int} (hb : Bt b) (s : Nat × Nat) : ∀ k, ∀ d ∈ (setsK b s k).1, 0 ≤ d ∧ d ≤ 4294967295
  | 0, d, h => by simp [setsK] at h
  | k + 1, d, h => by
    rw [setsK, List.mem_append] at h
    rcases h with h | h
    · exact setsK_wf hb s k d h
    · obtain rfl := List.mem_singleton.1 h
      exact stU_val hb (by decide) _
theorem rdS_wf {b : List Int} (hb : Bt b) : SWf (rdS b) := by
  refine ⟨fun d h => ?_, fun s h => ?_, fun s h => ?_, fun v h => setsK_wf hb _ _ v h⟩
  · have := dimsK_wf hb _ _ d h
    refine ⟨by unfold maxLen; omega, by omega, by omega⟩
  · have := textsK_wf hb _ _ s h
    unfold maxLen; omega
  · have := textsK_wf hb _ _ s h
    unfold maxLen; omega
theorem getE_le {b : List Int} (hb : Bt b) : getE b ≤ 9 := by
  have h := (rd_st hb).2.2.2.2.2.2.2
  have h2 := h.2
  have h3 := check_le (rdS b)
  unfold getE endE
  repeat' split
  all_goals omega
set_option maxRecDepth 100000
open Go.RowKit
set_option linter.unusedVariables false
theorem inU_st (w : World) (N : Nat) (b : List Int) (s : Nat × Nat) (most : Int) (h : InAt w N b s.1 s.2) (h9 : s.2 < 9) :
    Calls Try.prog 70 #[.pointer (some ⟨N, 0, none⟩), .int .u64 most] w fun r w' => r = .returned (.int .u64 (stU b most s).1) ∧ InAt w' N b (stU b most s).2.1 (stU b most s).2.2 ∧ w.grownBy w' (some N) := by
  obtain ⟨p, e⟩ := s
  simp only at h h9
  unfold stU
  by_cases he : e = 0
  · subst he
    rw [if_pos rfl]
    refine (inU_any w N b p most h).mono ?_
    rintro r w' ⟨⟨v, rfl, rfl⟩, h2, h3⟩
    exact ⟨rfl, h2, h3⟩
  · rw [if_neg he]
    refine (inU_shut w _ e most (h.shut he (by omega))).mono ?_
    rintro r w' ⟨rfl, hb⟩
    exact ⟨rfl, h.below hb, grown_below hb _⟩
theorem inT_st (w : World) (N : Nat) (b : List Int) (s : Nat × Nat) (most : Int) (h : InAt w N b s.1 s.2) (h9 : s.2 < 9) :
    Calls Try.prog 69 #[.pointer (some ⟨N, 0, none⟩), .int .i64 most] w fun r w' => r = .returned (.string (strB (stT b most s).1)) ∧ InAt w' N b (stT b most s).2.1 (stT b most s).2.2 ∧ w.grownBy w' (some N) := by
  obtain ⟨p, e⟩ := s
  simp only at h h9
  unfold stT
  by_cases he : e = 0
  · subst he
    rw [if_pos rfl]
    refine (inT_any w N b p most h).mono ?_
    rintro r w' ⟨⟨v, rfl, rfl⟩, h2, h3⟩
    exact ⟨rfl, h2, h3⟩
  · rw [if_neg he]
    refine (inT_shut w _ e most (h.shut he (by omega))).mono ?_
    rintro r w' ⟨rfl, hb⟩
    exact ⟨rfl, h.below hb, grown_below hb _⟩
theorem cell_grown {w w' : World} {N : Nat} {a : Addr} {v : Value} (hg : w.grownBy w' (some N)) (h : w.cell? a = some v) (hne : a.block ≠ N) : w'.cell? a = some v := by
  rw [hg.cell_far a (World.block_lt_of_cell? w a h) (by simpa using hne)]; exact h
theorem grown_own {a b c : World} {N K : Nat} (h : a.grownBy b (some N)) (k : b.grownBy c (some K)) (hK : a.heap.size ≤ K) : a.grownBy c (some N) :=
  ⟨k.os.trans h.os, k.tape.trans h.tape, k.output.trans h.output, Nat.le_trans h.size k.size, fun i hi hn => (k.block i (Nat.lt_of_lt_of_le hi h.size) (fun e => by have e2 := Option.some.inj e; omega)).trans (h.block i hi hn)⟩
/-- A reader stays where another block changes. -/
theorem InAt.far {w w' : World} {N K : Nat} {b : List Int} {p e : Nat} {cur : Array Value} {T : TypeId} {fr : Nat × Nat} (h : InAt w N b p e) (hp : w.heap[K]? = some (.cells cur T fr)) (hT : T ≠ 5) (hne : N ≠ K) (hg : w.grownBy w' (some K)) : InAt w' N b p e := by
  obtain ⟨v, h1, h2, h3, h4⟩ := h
  refine ⟨v, ?_, h2.grown h3 hp hT hg, h3.grown hp hT hg, h4⟩
  unfold In4
  rw [hg.block N h1.lt (by simpa using hne)]
  exact h1
/-- A block of a dimension. -/
def Dim2 (w : World) (K : Nat) (x : ByteArray) (z : Int) : Prop := w.heap[K]? = some (.cells #[.string x, .int .i64 z] 54 (0, 0))
theorem Dim2.reads {w : World} {K : Nat} {x : ByteArray} {z : Int} (h : Dim2 w K x z) : w.cell? ⟨K, 0, none⟩ = some (.string x) ∧ w.cell? ⟨K, 1, none⟩ = some (.int .i64 z) ∧ w.frozen? ⟨K, 0, none⟩ = false ∧ w.frozen? ⟨K, 1, none⟩ = false := by
  unfold Dim2 at h
  refine ⟨by simp [World.cell?, h], by simp [World.cell?, h], by simp [World.frozen?, h], by simp [World.frozen?, h]⟩
theorem Dim2.lt {w : World} {K : Nat} {x : ByteArray} {z : Int} (h : Dim2 w K x z) : K < w.heap.size := (Array.getElem?_eq_some_iff.1 h).1
theorem Dim2.grown {w w' : World} {K N : Nat} {x : ByteArray} {z : Int} (h : Dim2 w K x z) (hg : w.grownBy w' (some N)) (hne : K ≠ N) : Dim2 w' K x z := by
  unfold Dim2; rw [hg.block K h.lt (by simpa using hne)]; exact h
theorem Dim2.set0 {w : World} {K : Nat} {x y : ByteArray} {z : Int} (h : Dim2 w K x z) : Dim2 (w.setCell ⟨K, 0, none⟩ (.string y)) K y z := heap_setCell_same w K 0 _ _ (.string y) h
theorem Dim2.set1 {w : World} {K : Nat} {x : ByteArray} {z y : Int} (h : Dim2 w K x z) : Dim2 (w.setCell ⟨K, 1, none⟩ (.int .i64 y)) K x y := heap_setCell_same w K 1 _ _ (.int .i64 y) h
theorem Dim2.low {w w' : World} {K : Nat} {x : ByteArray} {z : Int} (h : Dim2 w K x z) (hb : Below w.heap.size w w') : Dim2 w' K x z := by
  unfold Dim2; rw [hb.block K h.lt]; exact h
set_option maxHeartbeats 4000000 in
theorem rdDim_any (w : World) (N M : Nat) (b : List Int) (s : Nat × Nat) (h : InAt w N b s.1 s.2) (hs : OkSt b s) (hb : Bt b) (hM : w.cell? ⟨M, 0, none⟩ = some (.pointer (some ⟨N, 0, none⟩))) (hne : M ≠ N) :
    Calls Try.prog 68 #[.pointer (some ⟨M, 0, none⟩)] w fun r w' => r = .returned (.agg #[.string (strB (stT b 16 s).1), .int .i64 (stU b 4096 (stT b 16 s).2).1]) ∧ InAt w' N b (stU b 4096 (stT b 16 s).2).2.1 (stU b 4096 (stT b 16 s).2).2.2 ∧ w.grownBy w' (some N) := by
  have hv := stU_val hb (most := 4096) (by decide) (stT b 16 s).2
  have hs1 := stT_st 16 hs
  have HT := Lib.hid (fun w1 (h : InAt w1 N b s.1 s.2) => inT_st w1 N b s 16 h hs.2)
  have HU := Lib.hid (fun w1 (h : InAt w1 N b (stT b 16 s).2.1 (stT b 16 s).2.2) => inU_st w1 N b (stT b 16 s).2 4096 h hs1.2)
  obtain ⟨W, hW⟩ : ∃ W, (w.alloc (.cells #[.string ⟨#[]⟩, .int .i64 0] 54)).alloc (.cells #[.string ⟨#[]⟩, .int .i64 0] 54) = W := ⟨_, rfl⟩
  have hd1 : Dim2 (w.alloc (.cells #[.string ⟨#[]⟩, .int .i64 0] 54)) w.heap.size ⟨#[]⟩ 0 := heap_alloc_new w _
  have hd2 := heap_alloc_new (w.alloc (.cells #[.string ⟨#[]⟩, .int .i64 0] 54)) (.cells #[.string ⟨#[]⟩, .int .i64 0] 54)
  have hz : (w.alloc (.cells #[.string ⟨#[]⟩, .int .i64 0] 54)).heap.size = w.heap.size + 1 := by simp
  have hb2 := below_one (w.alloc (.cells #[.string ⟨#[]⟩, .int .i64 0] 54)) (.cells #[.string ⟨#[]⟩, .int .i64 0] 54)
  have hd1 := hd1.low hb2
  have hbw := below_then (below_one w (.cells #[.string ⟨#[]⟩, .int .i64 0] 54)) hb2
  rw [hz] at hd2
  rw [hW] at hbw hd1 hd2
  have hd2 : Dim2 W (w.heap.size + 1) ⟨#[]⟩ 0 := hd2
  have hNl := h.lt
  have HI1 := Lib.hid (h.below hbw)
  have HM1 := Lib.hid (cell_hold hbw hM)
  have hM1 := HM1.out
  have HD1 := Lib.hid hd1
  have HD2 := Lib.hid hd2
  have HG := Lib.hid (grown_below hbw (some N))
  have hMl : M < w.heap.size := World.block_lt_of_cell? w _ hM
  generalize (stU b 4096 (stT b 16 s).2).1 = z at *
  generalize strB (stT b 16 s).1 = x at *
  generalize (stU b 4096 (stT b 16 s).2).2 = s2 at *
  generalize (stT b 16 s).2 = s1 at *
  have i1 : IntKind.i64.wrap z = z := IntWalk.i64_in _ (by omega)
  clear hd1 hd2 hz hb2 hbw h hM hv hs hs1
  go_enter Try.func68, Try.ntmps68
  go_wp2_with fail
  refine (HT.out _ HI1.out).mono ?_; rintro r w1 ⟨rfl, hi, hg⟩
  have hd1 := HD1.out.grown hg (by omega)
  have hd2 := HD2.out.grown hg (by omega)
  obtain ⟨c0, c1, f0, f1⟩ := hd2.reads
  have hg2 := grown_set w1 (w.heap.size + 1) 0 (.string x)
  have HI2 := Lib.hid (hi.far hd2 (by decide) (by omega) hg2)
  have HG2 := Lib.hid (grown_own (grown_then HG.out hg) hg2 (by omega))
  have HD1b := Lib.hid (hd1.grown hg2 (by omega))
  have HD2b := Lib.hid (Dim2.set0 (y := x) hd2)
  have hM2 := cell_grown hg2 (cell_grown hg HM1.out hne) (by show M ≠ _; omega)
  have HM2 := Lib.hid hM2
  clear hd1 hd2 hg hg2 hi hM1 hW
  go_wp2_with fail
  refine (HU.out _ HI2.out).mono ?_; rintro r w2 ⟨rfl, hi, hg⟩
  have hd1 := HD1b.out.grown hg (by omega)
  have hd2 := HD2b.out.grown hg (by omega)
  obtain ⟨c0, c1, f0, f1⟩ := hd2.reads
  have hg2 := grown_set w2 (w.heap.size + 1) 1 (.int .i64 z)
  have HI3 := Lib.hid (hi.far hd2 (by decide) (by omega) hg2)
  have HG3 := Lib.hid (grown_own (grown_then HG2.out hg) hg2 (by omega))
  have HD1c := Lib.hid (hd1.grown hg2 (by omega))
  have HD2c := Lib.hid (Dim2.set1 (y := z) hd2)
  obtain ⟨d0, d1, g0, g1⟩ := HD2c.out.reads
  obtain ⟨e0, e1, h0, h1⟩ := HD1c.out.reads
  clear hd1 hd2 hg hg2 hi hM2
  go_wp2_with fail
  have hg4 := grown_then (grown_set (w2.setCell ⟨w.heap.size + 1, 1, none⟩ (.int .i64 z)) w.heap.size 0 (.string x)) (grown_set ((w2.setCell ⟨w.heap.size + 1, 1, none⟩ (.int .i64 z)).setCell ⟨w.heap.size, 0, none⟩ (.string x)) w.heap.size 1 (.int .i64 z))
  obtain ⟨r0, r1, -, -⟩ := (Dim2.set1 (y := z) (Dim2.set0 (y := x) HD1c.out)).reads
  have HI4 := HI3.out.far HD1c.out (by decide) (by omega) hg4
  have HG4 := grown_own HG3.out hg4 (Nat.le_refl _)
  generalize ((w2.setCell ⟨w.heap.size + 1, 1, none⟩ (.int .i64 z)).setCell ⟨w.heap.size, 0, none⟩ (.string x)).setCell ⟨w.heap.size, 1, none⟩ (.int .i64 z) = W4 at *
  exact bodyPost_ret (v := .agg #[.string x, .int .i64 z]) (by simp [results, Try.results68, r0, r1, go_sem]) rfl ⟨rfl, HI4, HG4⟩
set_option maxRecDepth 100000
open Go.RowKit
set_option linter.unusedVariables false
theorem rdText_any (w : World) (N M : Nat) (b : List Int) (s : Nat × Nat) (h : InAt w N b s.1 s.2) (hs : OkSt b s) (hM : w.cell? ⟨M, 0, none⟩ = some (.pointer (some ⟨N, 0, none⟩))) :
    Calls Try.prog 71 #[.pointer (some ⟨M, 0, none⟩)] w fun r w' => r = .returned (.string (strB (stT b 16 s).1)) ∧ InAt w' N b (stT b 16 s).2.1 (stT b 16 s).2.2 ∧ w.grownBy w' (some N) := by
  have HT := Lib.hid (inT_st w N b s 16 h hs.2)
  generalize strB (stT b 16 s).1 = x at *
  generalize (stT b 16 s).2 = s1 at *
  clear h hs
  go_enter Try.func71, Try.ntmps71
  go_wp2_with fail
  refine (HT.out).mono ?_; rintro r w1 ⟨rfl, hi, hg⟩
  have HI := Lib.hid (And.intro hi hg)
  clear hi hg
  go_wp2_with fail
  go_ret
  exact ⟨rfl, HI.out.1, HI.out.2⟩
theorem rdSet_any (w : World) (N M : Nat) (b : List Int) (s : Nat × Nat) (h : InAt w N b s.1 s.2) (hs : OkSt b s) (hb : Bt b) (hM : w.cell? ⟨M, 0, none⟩ = some (.pointer (some ⟨N, 0, none⟩))) :
    Calls Try.prog 74 #[.pointer (some ⟨M, 0, none⟩)] w fun r w' => r = .returned (.int .u32 (stU b 4294967295 s).1) ∧ InAt w' N b (stU b 4294967295 s).2.1 (stU b 4294967295 s).2.2 ∧ w.grownBy w' (some N) := by
  have HT := Lib.hid (inU_st w N b s 4294967295 h hs.2)
  have hv := stU_val hb (most := 4294967295) (by decide) s
  generalize (stU b 4294967295 s).1 = x at *
  generalize (stU b 4294967295 s).2 = s1 at *
  have i1 : IntKind.u32.wrap x = x := by rw [IntKind.wrap_u32]; omega
  clear h hs hv
  go_enter Try.func74, Try.ntmps74
  go_wp2_with fail
  refine (HT.out).mono ?_; rintro r w1 ⟨rfl, hi, hg⟩
  have HI := Lib.hid (And.intro hi hg)
  clear hi hg
  go_wp2_with fail
  go_ret
  exact ⟨rfl, HI.out.1, HI.out.2⟩
theorem grown_row {a b c : World} {N : Nat} {row : Option Nat} (h : a.grownBy b (some N)) (k : b.grownBy c row) (hr : ∀ g, row = some g → a.heap.size ≤ g) : a.grownBy c (some N) :=
  ⟨k.os.trans h.os, k.tape.trans h.tape, k.output.trans h.output, Nat.le_trans h.size k.size, fun i hi hn => (k.block i (Nat.lt_of_lt_of_le hi h.size) (fun e => by have e2 := hr i e.symm; omega)).trans (h.block i hi hn)⟩
theorem own_far {w w' : World} {B E sz n N : Nat} {v : Value} {xs : List Value} (h : w.ownsRow B E sz v n xs) (hg : w.grownBy w' (some N)) (hN : N < B) : w'.ownsRow B E sz v n xs := by
  refine h.kept hg ?_
  cases hv : v.ownBlock with
  | none => exact .inl rfl
  | some g => right; intro e; have e2 := Option.some.inj e; have := (h.lt g hv).1; omega
theorem InAt.own {w w' : World} {N : Nat} {b : List Int} {p e B E sz n : Nat} {v : Value} {xs : List Value} (h : InAt w N b p e) (ho : w.ownsRow B E sz v n xs) (hE : E ≠ 5) (hN : N < B) (hg : w.grownBy w' v.ownBlock) : InAt w' N b p e := by
  rcases ho.2 with ⟨rfl, -⟩ | ⟨g, cap, cur, rfl, h2, h3, -⟩
  · exact h.below ((Below.refl _ _).grown hg (Nat.le_refl _) (fun k hk => by simp [Value.ownBlock] at hk))
  · exact h.far h3 hE (by omega) hg
/-- A slice of dimensions of the call's own. -/
def cellsD (ds : List (ByteArray × Int)) : List Value := ds.flatMap fun d => [.string d.1, .int .i64 d.2]
abbrev DOwn (w : World) (B : Nat) (v : Value) (ds : List (ByteArray × Int)) : Prop := w.ownsRow B 54 2 v ds.length (cellsD ds)
theorem cellsD_snoc (ds : List (ByteArray × Int)) (x : ByteArray) (z : Int) : cellsD ds ++ [.string x, .int .i64 z] = cellsD (ds ++ [(x, z)]) := by simp [cellsD]
theorem cellsD_get : ∀ (ds : List (ByteArray × Int)) (i : Nat), i < ds.length → (cellsD ds)[i * 2]? = some (.string (dn ds i)) ∧ (cellsD ds)[i * 2 + 1]? = some (.int .i64 (dz ds i))
  | [], i, h => by simp at h
  | d :: ds, 0, _ => by simp [cellsD, dn, dz]
  | d :: ds, i + 1, h => by
    have ih := cellsD_get ds i (by simpa using h)
    have e : cellsD (d :: ds) = .string d.1 :: .int .i64 d.2 :: cellsD ds := by simp [cellsD]
    have e1 : (i + 1) * 2 = i * 2 + 1 + 1 := by omega
    rw [e, e1]
    simp only [List.getElem?_cons_succ]
    refine ⟨ih.1.trans ?_, ih.2.trans ?_⟩
    · simp [dn]
    · simp [dz]
theorem own_slices {w : World} {B E sz n : Nat} {v : Value} {xs : List Value} (h : w.ownsRow B E sz v n xs) : ∃ a c, v = .slice a n c := by
  rcases h.2 with ⟨rfl, rfl⟩ | ⟨g, cap, cur, rfl, -⟩
  · exact ⟨_, _, rfl⟩
  · exact ⟨_, _, rfl⟩
theorem own_any {w : World} {B E sz n : Nat} {v : Value} {xs : List Value} (h : w.ownsRow B E sz v n xs) : ∃ a l c, v = .slice a l c := by
  obtain ⟨a, c, e⟩ := own_slices h
  exact ⟨a, n, c, e⟩
theorem Dims.own {w : World} {B : Nat} {v : Value} {ds : List (ByteArray × Int)} (h : DOwn w B v ds) : Dims w v ds := by
  obtain ⟨hl, h⟩ := h
  rcases h with ⟨rfl, h0⟩ | ⟨g, cap, cur, rfl, _, hb, hnc, hm, hs, ht⟩
  · have : ds = [] := List.length_eq_zero_iff.1 h0
    subst this
    exact ⟨none, 0, rfl, by simp, by simp, .inl rfl⟩
  · refine ⟨_, cap, rfl, hnc, by unfold maxLen at hm; omega, .inr ⟨g, 0, rfl, (Array.getElem?_eq_some_iff.1 hb).1, fun i hi => ?_⟩⟩
    obtain ⟨c0, c1⟩ := cellsD_get ds i hi
    rw [← ht, List.getElem?_take, if_pos (by omega)] at c0 c1
    refine ⟨?_, ?_⟩
    · rw [Nat.zero_add, cell_of_row _ _ (i * 2) _ _ (0, 0) hb]
      simpa using c0
    · rw [Nat.zero_add, cell_of_row _ _ (i * 2 + 1) _ _ (0, 0) hb]
      simpa using c1
theorem ints_one' {k : IntKind} {w : World} {x : Int} {T : TypeId} {N : Nat} (hN : w.heap.size = N) : Ints k (w.alloc (.cells #[.int k x] T)) (.slice (some ⟨N, 0, none⟩) 1 1) [x] := by
  subst hN
  refine ⟨_, _, rfl, Nat.le_refl _, .inr ⟨w.heap.size, 0, rfl, by simp, fun i hi => ?_⟩⟩
  have h0 : i = 0 := by simp at hi; omega
  subst h0
  simp [go_sem]
theorem dims_snoc {w : World} {B : Nat} {v : Value} {q : List (ByteArray × Int)} {x : ByteArray} {z : Int} (h : w.ownsRow B 54 2 v (q.length + 1) (cellsD q ++ [.string x, .int .i64 z])) : DOwn w B v (q ++ [(x, z)]) := by
  rw [cellsD_snoc] at h
  unfold DOwn
  rw [List.length_append]
  exact h
theorem zcells_dim : (Value.agg #[.string ⟨#[]⟩, .int .i64 0]).cells.size = 2 := by simp [Value.cells]
theorem dim_cells2 (w : World) (x : ByteArray) (z : Int) : ∀ j u, [Value.string x, .int .i64 z][j]? = some u → (w.alloc (.cells #[.string x, .int .i64 z] 54)).cell? ((⟨w.heap.size, 0, none⟩ : Addr).add j) = some u := by
  intro j u hj
  have hl := (List.getElem?_eq_some_iff.1 hj).1
  have hl2 : j < 2 := hl
  rcases (by omega : j = 0 ∨ j = 1) with rfl | rfl
  · simpa [Addr.add, go_sem] using hj
  · simpa [Addr.add, go_sem] using hj
set_option maxHeartbeats 4000000 in
theorem getTexts_any (w : World) (N M : Nat) (b : List Int) (s : Nat × Nat) (most : Int) (h0 : 0 ≤ most) (h1 : most ≤ 15) (h : InAt w N b s.1 s.2) (hs : OkSt b s) (hb : Bt b) (hM : w.cell? ⟨M, 0, none⟩ = some (.pointer (some ⟨N, 0, none⟩))) (hne : M ≠ N) :
    Calls Try.prog 72 #[.pointer (some ⟨N, 0, none⟩), .int .u64 most, .func (.func 71) #[] #[.pointer (some ⟨M, 0, none⟩)]] w fun r w' => (∃ v, r = .returned v ∧ SOwn w' w.heap.size v (textsK b (stU b most s).2 (stU b most s).1.toNat).1) ∧ InAt w' N b (textsK b (stU b most s).2 (stU b most s).1.toNat).2.1 (textsK b (stU b most s).2 (stU b most s).1.toNat).2.2 ∧ w.grownBy w' (some N) := by
  obtain ⟨i0, hi, hz0, hz1, hz2⟩ := info_parts Try.infoStr
  have hv := stU_val hb h0 s
  have hs1 := stU_st hb most hs
  have HU := Lib.hid (inU_st w N b s most h hs.2)
  have hNl := h.lt
  have HM := Lib.hid hM
  have HKs := Lib.hid (fun k => textsK_st hs1 k)
  have HR := Lib.hid (fun w1 k (h : InAt w1 N b (textsK b (stU b most s).2 k).2.1 (textsK b (stU b most s).2 k).2.2) hM => rdText_any w1 N M b (textsK b (stU b most s).2 k).2 h (textsK_st hs1 k).1 hM)
  have HN := Lib.hid (fun k => show textsK b (stU b most s).2 (k + 1) = ((textsK b (stU b most s).2 k).1 ++ [strB (stT b 16 (textsK b (stU b most s).2 k).2).1], (stT b 16 (textsK b (stU b most s).2 k).2).2) from rfl)
  obtain ⟨n, hn⟩ : ∃ n : Nat, (stU b most s).1 = n := ⟨(stU b most s).1.toNat, by omega⟩
  rw [hn] at HU hv
  rw [hn, Int.toNat_natCast]
  generalize (stU b most s).2 = s1 at *
  clear h hs hb hM hn hs1
  go_enter Try.func72, Try.ntmps72
  go_wp2_with fail
  refine (HU.out).mono ?_; rintro r w1 ⟨rfl, hi1, hg⟩
  have HS0 := Lib.hid (And.intro hi1 hg)
  clear hi1 hg
  go_wp2_with fail
  go_loopw [7, 11] (fun lv i wr => ∃ k : Nat, k ≤ n ∧ i = .int .u64 k ∧ Hid (SOwn wr w.heap.size lv (textsK b s1 k).1 ∧ InAt wr N b (textsK b s1 k).2.1 (textsK b s1 k).2.2 ∧ w.grownBy wr (some N))) (fun _ i _ => n - (intOf i).toNat)
  case atStart => exact ⟨0, Nat.zero_le _, rfl, Lib.hid ⟨⟨by simp [textsK], .inl ⟨rfl, rfl⟩⟩, HS0.out.1, HS0.out.2⟩⟩
  case round =>
    obtain ⟨k, hk, rfl, HS⟩ := hrel
    by_cases hlk : k < n
    · have hlk' : (k : Int) < (n : Int) := by omega
      have hMr := cell_grown HS.out.2.2 HM.out hne
      have HRk := Lib.hid (HR.out wr k HS.out.2.1 hMr)
      have HNk := Lib.hid (HN.out k)
      have HLk := Lib.hid (HKs.out k).2
      have i1 : IntKind.u64.wrap ((k : Int) + 1) = (k : Int) + 1 := by rw [IntKind.wrap_u64]; omega
      generalize strB (stT b 16 (textsK b s1 k).2).1 = x at *
      generalize (stT b 16 (textsK b s1 k).2).2 = s2 at *
      obtain ⟨q, hq⟩ : ∃ q, (textsK b s1 k).1 = q := ⟨_, rfl⟩
      rw [hq] at HNk HLk HS
      obtain ⟨pa, pl, pc, rfl⟩ := own_any HS.out.1
      clear hq
      go_wp2_with fail
      refine (HRk.out).mono ?_; rintro r w2 ⟨rfl, hi2, hg2⟩
      have HO2 := Lib.hid (own_far HS.out.1 hg2 hNl)
      have HI2 := Lib.hid (And.intro hi2 (grown_then HS.out.2.2 hg2))
      have hsz := HI2.out.2.size
      clear hi2 hg2 hMr
      go_wp2_with (at_builtin; refine wpList_append_strs _ (by rfl) _ _ 23 rfl w.heap.size 9 i0 (.string ⟨#[]⟩) 16 Try.underlying23 hi hz0 hz1 hz2 rfl _ _ q [x] rfl rfl (HO2.out.alloc _) (strs_one rfl) (by have := HLk.out; unfold maxLen; simp; omega) (by have := HLk.out; simp; omega) (by simp; omega) ?_; intro v' w3 hown hgrow; have HQ := Lib.hid (And.intro hown (And.intro ((HI2.out.1.below (below_one _ _)).own (HO2.out.alloc _) (by decide) hNl hgrow) (grown_row (grown_then HI2.out.2 (grown_below (below_one _ _) _)) hgrow (fun g hg => (HO2.out.lt g hg).1)))); obtain ⟨pv', lv', cv', rfl⟩ := own_any hown; clear hown hgrow)
      go_roundw
      case rel => exact ⟨k + 1, by omega, by go_num, Lib.hid ⟨by rw [HNk.out]; exact HQ.out.1, by rw [HNk.out]; exact HQ.out.2.1, HQ.out.2.2⟩⟩
      case measure => simp [intOf]; omega
    · have : k = n := by omega
      subst this
      obtain ⟨pa, pl, pc, rfl⟩ := own_any HS.out.1
      go_wp2_with fail
      go_ret
      exact ⟨⟨_, rfl, HS.out.1⟩, HS.out.2⟩
set_option maxHeartbeats 4000000 in
theorem getSets_any (w : World) (N M : Nat) (b : List Int) (s : Nat × Nat) (most : Int) (h0 : 0 ≤ most) (h1 : most ≤ 15) (h : InAt w N b s.1 s.2) (hs : OkSt b s) (hb : Bt b) (hM : w.cell? ⟨M, 0, none⟩ = some (.pointer (some ⟨N, 0, none⟩))) (hne : M ≠ N) :
    Calls Try.prog 73 #[.pointer (some ⟨N, 0, none⟩), .int .u64 most, .func (.func 74) #[] #[.pointer (some ⟨M, 0, none⟩)]] w fun r w' => (∃ v, r = .returned v ∧ UOwn w' w.heap.size v (setsK b (stU b most s).2 (stU b most s).1.toNat).1) ∧ InAt w' N b (setsK b (stU b most s).2 (stU b most s).1.toNat).2.1 (setsK b (stU b most s).2 (stU b most s).1.toNat).2.2 ∧ w.grownBy w' (some N) := by
  obtain ⟨i0, hi, hz0, hz1, hz2⟩ := info_parts Try.infoU32
  have hv := stU_val hb h0 s
  have hs1 := stU_st hb most hs
  have HU := Lib.hid (inU_st w N b s most h hs.2)
  have hNl := h.lt
  have HM := Lib.hid hM
  have HKs := Lib.hid (fun k => setsK_st hb hs1 k)
  have HR := Lib.hid (fun w1 k (h : InAt w1 N b (setsK b (stU b most s).2 k).2.1 (setsK b (stU b most s).2 k).2.2) hM => rdSet_any w1 N M b (setsK b (stU b most s).2 k).2 h (setsK_st hb hs1 k).1 hb hM)
  have HN := Lib.hid (fun k => show setsK b (stU b most s).2 (k + 1) = ((setsK b (stU b most s).2 k).1 ++ [(stU b 4294967295 (setsK b (stU b most s).2 k).2).1], (stU b 4294967295 (setsK b (stU b most s).2 k).2).2) from rfl)
  obtain ⟨n, hn⟩ : ∃ n : Nat, (stU b most s).1 = n := ⟨(stU b most s).1.toNat, by omega⟩
  rw [hn] at HU hv
  rw [hn, Int.toNat_natCast]
  generalize (stU b most s).2 = s1 at *
  clear h hs hb hM hn hs1
  go_enter Try.func73, Try.ntmps73
  go_wp2_with fail
  refine (HU.out).mono ?_; rintro r w1 ⟨rfl, hi1, hg⟩
  have HS0 := Lib.hid (And.intro hi1 hg)
  clear hi1 hg
  go_wp2_with fail
  go_loopw [7, 11] (fun lv i wr => ∃ k : Nat, k ≤ n ∧ i = .int .u64 k ∧ Hid (UOwn wr w.heap.size lv (setsK b s1 k).1 ∧ InAt wr N b (setsK b s1 k).2.1 (setsK b s1 k).2.2 ∧ w.grownBy wr (some N))) (fun _ i _ => n - (intOf i).toNat)
  case atStart => exact ⟨0, Nat.zero_le _, rfl, Lib.hid ⟨⟨by simp [setsK], .inl ⟨rfl, rfl⟩⟩, HS0.out.1, HS0.out.2⟩⟩
  case round =>
    obtain ⟨k, hk, rfl, HS⟩ := hrel
    by_cases hlk : k < n
    · have hlk' : (k : Int) < (n : Int) := by omega
      have hMr := cell_grown HS.out.2.2 HM.out hne
      have HRk := Lib.hid (HR.out wr k HS.out.2.1 hMr)
      have HNk := Lib.hid (HN.out k)
      have HLk := Lib.hid (HKs.out k).2
      have i1 : IntKind.u64.wrap ((k : Int) + 1) = (k : Int) + 1 := by rw [IntKind.wrap_u64]; omega
      generalize (stU b 4294967295 (setsK b s1 k).2).1 = x at *
      generalize (stU b 4294967295 (setsK b s1 k).2).2 = s2 at *
      obtain ⟨q, hq⟩ : ∃ q, (setsK b s1 k).1 = q := ⟨_, rfl⟩
      rw [hq] at HNk HLk HS
      obtain ⟨pa, pl, pc, rfl⟩ := own_any HS.out.1
      clear hq
      go_wp2_with fail
      refine (HRk.out).mono ?_; rintro r w2 ⟨rfl, hi2, hg2⟩
      have HO2 := Lib.hid (own_far HS.out.1 hg2 hNl)
      have HI2 := Lib.hid (And.intro hi2 (grown_then HS.out.2.2 hg2))
      have hsz := HI2.out.2.size
      clear hi2 hg2 hMr
      go_wp2_with (at_builtin; refine wpList_append_want _ (by rfl) _ _ 24 rfl w.heap.size 27 i0 (.int .u32 0) 4 Try.underlying24 hi hz0 hz1 hz2 rfl .u32 _ _ q [x] rfl rfl (HO2.out.alloc _) (ints_one' rfl) (by have := HLk.out; unfold maxLen; simp; omega) (by have := HLk.out; simp; omega) (by simp; omega) ?_; intro v' w3 hown hgrow; have HQ := Lib.hid (And.intro hown (And.intro ((HI2.out.1.below (below_one _ _)).own (HO2.out.alloc _) (by decide) hNl hgrow) (grown_row (grown_then HI2.out.2 (grown_below (below_one _ _) _)) hgrow (fun g hg => (HO2.out.lt g hg).1)))); obtain ⟨pv', lv', cv', rfl⟩ := own_any hown; clear hown hgrow)
      go_roundw
      case rel => exact ⟨k + 1, by omega, by go_num, Lib.hid ⟨by rw [HNk.out]; exact HQ.out.1, by rw [HNk.out]; exact HQ.out.2.1, HQ.out.2.2⟩⟩
      case measure => simp [intOf]; omega
    · have : k = n := by omega
      subst this
      obtain ⟨pa, pl, pc, rfl⟩ := own_any HS.out.1
      go_wp2_with fail
      go_ret
      exact ⟨⟨_, rfl, HS.out.1⟩, HS.out.2⟩
set_option maxHeartbeats 4000000 in
theorem getDims_any (w : World) (N M : Nat) (b : List Int) (s : Nat × Nat) (most : Int) (h0 : 0 ≤ most) (h1 : most ≤ 15) (h : InAt w N b s.1 s.2) (hs : OkSt b s) (hb : Bt b) (hM : w.cell? ⟨M, 0, none⟩ = some (.pointer (some ⟨N, 0, none⟩))) (hne : M ≠ N) :
    Calls Try.prog 67 #[.pointer (some ⟨N, 0, none⟩), .int .u64 most, .func (.func 68) #[] #[.pointer (some ⟨M, 0, none⟩)]] w fun r w' => (∃ v, r = .returned v ∧ DOwn w' w.heap.size v (dimsK b (stU b most s).2 (stU b most s).1.toNat).1) ∧ InAt w' N b (dimsK b (stU b most s).2 (stU b most s).1.toNat).2.1 (dimsK b (stU b most s).2 (stU b most s).1.toNat).2.2 ∧ w.grownBy w' (some N) := by
  obtain ⟨i0, hi, hz0, hz1, hz2⟩ := info_parts Try.infoDim
  have hv := stU_val hb h0 s
  have hs1 := stU_st hb most hs
  have HU := Lib.hid (inU_st w N b s most h hs.2)
  have hNl := h.lt
  have HM := Lib.hid hM
  have HKs := Lib.hid (fun k => dimsK_st hb hs1 k)
  have HR := Lib.hid (fun w1 k (h : InAt w1 N b (dimsK b (stU b most s).2 k).2.1 (dimsK b (stU b most s).2 k).2.2) hM => rdDim_any w1 N M b (dimsK b (stU b most s).2 k).2 h (dimsK_st hb hs1 k).1 hb hM hne)
  have HN := Lib.hid (fun k => show dimsK b (stU b most s).2 (k + 1) = ((dimsK b (stU b most s).2 k).1 ++ [(strB (stT b 16 (dimsK b (stU b most s).2 k).2).1, (stU b 4096 (stT b 16 (dimsK b (stU b most s).2 k).2).2).1)], (stU b 4096 (stT b 16 (dimsK b (stU b most s).2 k).2).2).2) from rfl)
  obtain ⟨n, hn⟩ : ∃ n : Nat, (stU b most s).1 = n := ⟨(stU b most s).1.toNat, by omega⟩
  rw [hn] at HU hv
  rw [hn, Int.toNat_natCast]
  generalize (stU b most s).2 = s1 at *
  clear h hs hb hM hn hs1
  go_enter Try.func67, Try.ntmps67
  go_wp2_with fail
  refine (HU.out).mono ?_; rintro r w1 ⟨rfl, hi1, hg⟩
  have HS0 := Lib.hid (And.intro hi1 hg)
  clear hi1 hg
  go_wp2_with fail
  go_loopw [7, 11] (fun lv i wr => ∃ k : Nat, k ≤ n ∧ i = .int .u64 k ∧ Hid (DOwn wr w.heap.size lv (dimsK b s1 k).1 ∧ InAt wr N b (dimsK b s1 k).2.1 (dimsK b s1 k).2.2 ∧ w.grownBy wr (some N))) (fun _ i _ => n - (intOf i).toNat)
  case atStart => exact ⟨0, Nat.zero_le _, rfl, Lib.hid ⟨⟨by simp [dimsK, cellsD], .inl ⟨rfl, rfl⟩⟩, HS0.out.1, HS0.out.2⟩⟩
  case round =>
    obtain ⟨k, hk, rfl, HS⟩ := hrel
    by_cases hlk : k < n
    · have hlk' : (k : Int) < (n : Int) := by omega
      have hMr := cell_grown HS.out.2.2 HM.out hne
      have HRk := Lib.hid (HR.out wr k HS.out.2.1 hMr)
      have HNk := Lib.hid (HN.out k)
      have HLk := Lib.hid (HKs.out k).2
      have i1 : IntKind.u64.wrap ((k : Int) + 1) = (k : Int) + 1 := by rw [IntKind.wrap_u64]; omega
      generalize strB (stT b 16 (dimsK b s1 k).2).1 = x at *
      generalize (stU b 4096 (stT b 16 (dimsK b s1 k).2).2).1 = z at *
      generalize (stU b 4096 (stT b 16 (dimsK b s1 k).2).2).2 = s2 at *
      obtain ⟨q, hq⟩ : ∃ q, (dimsK b s1 k).1 = q := ⟨_, rfl⟩
      rw [hq] at HNk HLk HS
      obtain ⟨pa, pl, pc, rfl⟩ := own_any HS.out.1
      clear hq
      go_wp2_with fail
      refine (HRk.out).mono ?_; rintro r w2 ⟨rfl, hi2, hg2⟩
      have HO2 := Lib.hid (own_far HS.out.1 hg2 hNl)
      have HI2 := Lib.hid (And.intro hi2 (grown_then HS.out.2.2 hg2))
      have hsz := HI2.out.2.size
      clear hi2 hg2 hMr
      go_wp2_with (at_builtin; refine wpList_append_own _ rfl _ _ 22 rfl w.heap.size 54 i0 (.agg #[.string ⟨#[]⟩, .int .i64 0]) 2 24 Try.underlying22 hi hz0 hz1 hz2 zcells_dim (by decide) _ _ (cellsD q) rfl (HO2.out.alloc _) ⟨w2.heap.size, 0, none⟩ 1 1 [.string x, .int .i64 z] rfl rfl (dim_cells2 w2 x z) (by intro u hu; simp at hu; rcases hu with rfl | rfl <;> rfl) (by have := HLk.out; unfold maxLen; omega) (by have := HLk.out; omega) (by simp; omega) ?_; intro v' w3 hown hgrow hiff; clear hiff; have hown := dims_snoc hown; have HQ := Lib.hid (And.intro hown (And.intro ((HI2.out.1.below (below_one _ _)).own (HO2.out.alloc _) (by decide) hNl hgrow) (grown_row (grown_then HI2.out.2 (grown_below (below_one _ _) _)) hgrow (fun g hg => (HO2.out.lt g hg).1)))); obtain ⟨pv', lv', cv', rfl⟩ := own_any hown; clear hown hgrow)
      go_roundw
      case rel => exact ⟨k + 1, by omega, by go_num, Lib.hid ⟨by rw [HNk.out]; exact HQ.out.1, by rw [HNk.out]; exact HQ.out.2.1, HQ.out.2.2⟩⟩
      case measure => simp [intOf]; omega
    · have : k = n := by omega
      subst this
      obtain ⟨pa, pl, pc, rfl⟩ := own_any HS.out.1
      go_wp2_with fail
      go_ret
      exact ⟨⟨_, rfl, HS.out.1⟩, HS.out.2⟩
set_option maxRecDepth 100000
open Go.RowKit
set_option linter.unusedVariables false
theorem Box.set0 {w : World} {K : Nat} {D I M V u : Value} (h : Box w K D I M V) : Box (w.setCell ⟨K, 0, none⟩ u) K u I M V := heap_setCell_same w K 0 _ _ u h
theorem Box.set1 {w : World} {K : Nat} {D I M V u : Value} (h : Box w K D I M V) : Box (w.setCell ⟨K, 1, none⟩ u) K D u M V := heap_setCell_same w K 1 _ _ u h
theorem Box.set2 {w : World} {K : Nat} {D I M V u : Value} (h : Box w K D I M V) : Box (w.setCell ⟨K, 2, none⟩ u) K D I u V := heap_setCell_same w K 2 _ _ u h
theorem Box.set3 {w : World} {K : Nat} {D I M V u : Value} (h : Box w K D I M V) : Box (w.setCell ⟨K, 3, none⟩ u) K D I M u := heap_setCell_same w K 3 _ _ u h
theorem Box.free {w : World} {N : Nat} {D I M V : Value} (h : Box w N D I M V) : w.frozen? ⟨N, 0, none⟩ = false ∧ w.frozen? ⟨N, 1, none⟩ = false ∧ w.frozen? ⟨N, 2, none⟩ = false ∧ w.frozen? ⟨N, 3, none⟩ = false := by
  unfold Box at h
  refine ⟨by simp [World.frozen?, h], by simp [World.frozen?, h], by simp [World.frozen?, h], by simp [World.frozen?, h]⟩
theorem Box.grown {w w' : World} {K N : Nat} {D I M V : Value} (h : Box w K D I M V) (hg : w.grownBy w' (some N)) (hne : K ≠ N) : Box w' K D I M V := by
  unfold Box; rw [hg.block K h.lt (by simpa using hne)]; exact h
theorem own_low {w : World} {B B' E sz n : Nat} {v : Value} {xs : List Value} (h : w.ownsRow B E sz v n xs) (hb : B' ≤ B) : w.ownsRow B' E sz v n xs := by
  refine ⟨h.1, ?_⟩
  rcases h.2 with h0 | ⟨g, cap, cur, h1, h2, h3⟩
  · exact .inl h0
  · exact .inr ⟨g, cap, cur, h1, Nat.le_trans hb h2, h3⟩
/-- What stands in memory while a schema is read: the reader, the variable that the closures hold, the result's cells, the schema's cells. -/
structure Rd (w wr : World) (N : Nat) (b : List Int) (s : Nat × Nat) (D I M V : Value) : Prop where
  i : InAt wr N b s.1 s.2
  m : wr.cell? ⟨w.heap.size, 0, none⟩ = some (.pointer (some ⟨N, 0, none⟩))
  r : Box wr (w.heap.size + 1) (.slice none 0 0) (.slice none 0 0) (.slice none 0 0) (.slice none 0 0)
  k : Box wr (w.heap.size + 1 + 1) D I M V
  g : w.grownBy wr (some N)
  sz : w.heap.size + 3 ≤ wr.heap.size
theorem Rd.call {w wr w1 : World} {N : Nat} {b : List Int} {s t : Nat × Nat} {D I M V : Value} (h : Rd w wr N b s D I M V) (hN : N < w.heap.size) (hi : InAt w1 N b t.1 t.2) (hg : wr.grownBy w1 (some N)) : Rd w w1 N b t D I M V :=
  ⟨hi, cell_grown hg h.m (by show w.heap.size ≠ N; omega), h.r.grown hg (by omega), h.k.grown hg (by omega), grown_then h.g hg, Nat.le_trans h.sz hg.size⟩
theorem Rd.stay {w wr w1 : World} {N : Nat} {b : List Int} {s : Nat × Nat} {D I M V D' I' M' V' : Value} (h : Rd w wr N b s D I M V) (hN : N < w.heap.size) (hk : Box w1 (w.heap.size + 1 + 1) D' I' M' V') (hg : wr.grownBy w1 (some (w.heap.size + 1 + 1))) : Rd w w1 N b s D' I' M' V' :=
  ⟨h.i.far h.k (by decide) (by omega) hg, cell_grown hg h.m (by show w.heap.size ≠ _; omega), h.r.grown hg (by omega), hk, grown_own h.g hg (by omega), Nat.le_trans h.sz hg.size⟩
theorem three_alloc (w : World) (o1 o2 o3 : Obj) : Below w.heap.size w (((w.alloc o1).alloc o2).alloc o3) := below_then (below_then (below_one w o1) (below_one _ o2)) (below_one _ o3)
theorem rd_start (w : World) (N : Nat) (b : List Int) (s : Nat × Nat) (h : InAt w N b s.1 s.2) : Rd w (((w.alloc (.cells #[.pointer (some ⟨N, 0, none⟩)] 74)).alloc (SchO (.slice none 0 0) (.slice none 0 0) (.slice none 0 0) (.slice none 0 0))).alloc (SchO (.slice none 0 0) (.slice none 0 0) (.slice none 0 0) (.slice none 0 0))) N b s (.slice none 0 0) (.slice none 0 0) (.slice none 0 0) (.slice none 0 0) := by
  have hb := three_alloc w (.cells #[.pointer (some ⟨N, 0, none⟩)] 74) (SchO (.slice none 0 0) (.slice none 0 0) (.slice none 0 0) (.slice none 0 0)) (SchO (.slice none 0 0) (.slice none 0 0) (.slice none 0 0) (.slice none 0 0))
  have z1 : (w.alloc (.cells #[.pointer (some ⟨N, 0, none⟩)] 74)).heap.size = w.heap.size + 1 := by simp
  have z2 : ((w.alloc (.cells #[.pointer (some ⟨N, 0, none⟩)] 74)).alloc (SchO (.slice none 0 0) (.slice none 0 0) (.slice none 0 0) (.slice none 0 0))).heap.size = w.heap.size + 1 + 1 := by simp
  have k1 := box_new (w.alloc (.cells #[.pointer (some ⟨N, 0, none⟩)] 74)) (.slice none 0 0) (.slice none 0 0) (.slice none 0 0) (.slice none 0 0)
  have k2 := box_new ((w.alloc (.cells #[.pointer (some ⟨N, 0, none⟩)] 74)).alloc (SchO (.slice none 0 0) (.slice none 0 0) (.slice none 0 0) (.slice none 0 0))) (.slice none 0 0) (.slice none 0 0) (.slice none 0 0) (.slice none 0 0)
  have k0 : (w.alloc (.cells #[.pointer (some ⟨N, 0, none⟩)] 74)).cell? ⟨w.heap.size, 0, none⟩ = some (.pointer (some ⟨N, 0, none⟩)) := by simp [go_sem]
  rw [z1] at k1
  rw [z2] at k2
  exact ⟨h.below hb, cell_hold (below_then (below_one _ _) (below_one _ _)) k0, k1.below (below_one _ _), k2, grown_below hb _, by simp⟩
/-- A schema of the call's own. -/
structure Own4 (w : World) (B : Nat) (D I M V : Value) (S : Sc) : Prop where
  d : DOwn w B D S.ds
  i : SOwn w B I S.is
  n : SOwn w B M S.ns
  v : UOwn w B V S.vs
theorem Own4.far {w w' : World} {B N : Nat} {D I M V : Value} {S : Sc} (h : Own4 w B D I M V S) (hg : w.grownBy w' (some N)) (hN : N < B) : Own4 w' B D I M V S := ⟨own_far h.d hg hN, own_far h.i hg hN, own_far h.n hg hN, own_far h.v hg hN⟩
theorem Own4.sch {w : World} {B : Nat} {D I M V : Value} {S : Sc} (h : Own4 w B D I M V S) : Sch4 w D I M V S := ⟨Dims.own h.d, Strs.own h.i, Strs.own h.n, Ints.own h.v⟩
theorem Own4.alloc {w : World} {B : Nat} {D I M V : Value} {S : Sc} (h : Own4 w B D I M V S) (o : Obj) : Own4 (w.alloc o) B D I M V S := ⟨h.d.alloc o, h.i.alloc o, h.n.alloc o, h.v.alloc o⟩
theorem Own4.slices {w : World} {B : Nat} {D I M V : Value} {S : Sc} (h : Own4 w B D I M V S) : (∃ a l c, D = .slice a l c) ∧ (∃ a l c, I = .slice a l c) ∧ (∃ a l c, M = .slice a l c) ∧ ∃ a l c, V = .slice a l c := ⟨own_any h.d, own_any h.i, own_any h.n, own_any h.v⟩
def MadeSch (w w' : World) (N : Nat) (b : List Int) (S : Sc) (s : Nat × Nat) (r : Ending) : Prop := ∃ D I M V B, r = .returned (SchV D I M V) ∧ Own4 w' B D I M V S ∧ N < B ∧ InAt w' N b s.1 s.2 ∧ w.grownBy w' (some N)
set_option maxHeartbeats 8000000 in
theorem read_any (w : World) (N : Nat) (b : List Int) (h : InAt w N b 0 0) (hb : Bt b) :
    Calls Try.prog 47 #[.pointer (some ⟨N, 0, none⟩)] w fun r w' => MadeSch w w' N b (rdS b) (rdV b).2 r := by
  obtain ⟨s1, s2, s3, s4, s5, s6, s7, s8⟩ := rd_st hb
  have HDm := Lib.hid (fun wr M (h : InAt wr N b 0 0) hM hne => getDims_any wr N M b (0, 0) 6 (by decide) (by decide) h ⟨Nat.zero_le _, by decide⟩ hb hM hne)
  have HTm := Lib.hid (fun wr M (h : InAt wr N b (rdD b).2.1 (rdD b).2.2) hM hne => getTexts_any wr N M b (rdD b).2 3 (by decide) (by decide) h s2 hb hM hne)
  have HUm := Lib.hid (fun wr M (h : InAt wr N b (rdI b).2.1 (rdI b).2.2) hM hne => getTexts_any wr N M b (rdI b).2 2 (by decide) (by decide) h s4 hb hM hne)
  have HVm := Lib.hid (fun wr M (h : InAt wr N b (rdN b).2.1 (rdN b).2.2) hM hne => getSets_any wr N M b (rdN b).2 15 (by decide) (by decide) h s6 hb hM hne)
  have HE := Lib.hid (show rdS b = ⟨(rdD b).1, (rdI b).1, (rdN b).1, (rdV b).1⟩ from rfl)
  change Hid (∀ (wr : World) (M : Nat), _ → _ → _ → Calls _ _ _ _ fun r w' => (∃ v, r = .returned v ∧ DOwn w' wr.heap.size v (rdD b).1) ∧ InAt w' N b (rdD b).2.1 (rdD b).2.2 ∧ wr.grownBy w' (some N)) at HDm
  change Hid (∀ (wr : World) (M : Nat), _ → _ → _ → Calls _ _ _ _ fun r w' => (∃ v, r = .returned v ∧ SOwn w' wr.heap.size v (rdI b).1) ∧ InAt w' N b (rdI b).2.1 (rdI b).2.2 ∧ wr.grownBy w' (some N)) at HTm
  change Hid (∀ (wr : World) (M : Nat), _ → _ → _ → Calls _ _ _ _ fun r w' => (∃ v, r = .returned v ∧ SOwn w' wr.heap.size v (rdN b).1) ∧ InAt w' N b (rdN b).2.1 (rdN b).2.2 ∧ wr.grownBy w' (some N)) at HUm
  change Hid (∀ (wr : World) (M : Nat), _ → _ → _ → Calls _ _ _ _ fun r w' => (∃ v, r = .returned v ∧ UOwn w' wr.heap.size v (rdV b).1) ∧ InAt w' N b (rdV b).2.1 (rdV b).2.2 ∧ wr.grownBy w' (some N)) at HVm
  have hN := h.lt
  have HS0 := Lib.hid (rd_start w N b (0, 0) h)
  generalize hW0 : (((w.alloc (.cells #[.pointer (some ⟨N, 0, none⟩)] 74)).alloc (SchO (.slice none 0 0) (.slice none 0 0) (.slice none 0 0) (.slice none 0 0))).alloc (SchO (.slice none 0 0) (.slice none 0 0) (.slice none 0 0) (.slice none 0 0))) = W0 at HS0
  have m0 := HS0.out.m
  clear s1 s2 s3 s4 s5 s6 s7 s8 h hb
  go_enter Try.func47, Try.ntmps47
  go_wp2_with fail
  refine (HDm.out _ _ HS0.out.i HS0.out.m (by omega)).mono ?_; rintro r w1 ⟨⟨v, rfl, ho⟩, hi, hg⟩
  have hc := HS0.out.call hN hi hg
  have OD1 := Lib.hid (own_far (own_low ho HS0.out.sz) (grown_set w1 (w.heap.size + 1 + 1) 0 v) (by omega))
  have HS1 := Lib.hid (hc.stay hN (hc.k.set0 (u := v)) (grown_set w1 (w.heap.size + 1 + 1) 0 v))
  obtain ⟨k0, k1, k2, k3⟩ := hc.k.reads
  obtain ⟨f0, f1, f2, f3⟩ := hc.k.free
  have m1 := HS1.out.m
  obtain ⟨a1, l1, c1, rfl⟩ := own_any ho
  clear ho hi hg hc m0
  generalize hW1 : w1.setCell ⟨w.heap.size + 1 + 1, 0, none⟩ (.slice a1 l1 c1) = W1 at  OD1 HS1 m1
  go_wp2_with fail
  refine (HTm.out _ _ HS1.out.i HS1.out.m (by omega)).mono ?_; rintro r w2 ⟨⟨v, rfl, ho⟩, hi, hg⟩
  have hc := HS1.out.call hN hi hg
  have OD2 := Lib.hid (own_far (own_far OD1.out hg (by omega)) (grown_set w2 (w.heap.size + 1 + 1) 1 v) (by omega))
  have OI2 := Lib.hid (own_far (own_low ho HS1.out.sz) (grown_set w2 (w.heap.size + 1 + 1) 1 v) (by omega))
  have HS2 := Lib.hid (hc.stay hN (hc.k.set1 (u := v)) (grown_set w2 (w.heap.size + 1 + 1) 1 v))
  obtain ⟨k0, k1, k2, k3⟩ := hc.k.reads
  obtain ⟨f0, f1, f2, f3⟩ := hc.k.free
  have m2 := HS2.out.m
  obtain ⟨a2, l2, c2, rfl⟩ := own_any ho
  clear ho hi hg hc m1
  generalize hW2 : w2.setCell ⟨w.heap.size + 1 + 1, 1, none⟩ (.slice a2 l2 c2) = W2 at OD2 OI2 HS2 m2
  go_wp2_with fail
  refine (HUm.out _ _ HS2.out.i HS2.out.m (by omega)).mono ?_; rintro r w3 ⟨⟨v, rfl, ho⟩, hi, hg⟩
  have hc := HS2.out.call hN hi hg
  have OD3 := Lib.hid (own_far (own_far OD2.out hg (by omega)) (grown_set w3 (w.heap.size + 1 + 1) 2 v) (by omega))
  have OI3 := Lib.hid (own_far (own_far OI2.out hg (by omega)) (grown_set w3 (w.heap.size + 1 + 1) 2 v) (by omega))
  have OM3 := Lib.hid (own_far (own_low ho HS2.out.sz) (grown_set w3 (w.heap.size + 1 + 1) 2 v) (by omega))
  have HS3 := Lib.hid (hc.stay hN (hc.k.set2 (u := v)) (grown_set w3 (w.heap.size + 1 + 1) 2 v))
  obtain ⟨k0, k1, k2, k3⟩ := hc.k.reads
  obtain ⟨f0, f1, f2, f3⟩ := hc.k.free
  have m3 := HS3.out.m
  obtain ⟨a3, l3, c3, rfl⟩ := own_any ho
  clear ho hi hg hc m2
  generalize hW3 : w3.setCell ⟨w.heap.size + 1 + 1, 2, none⟩ (.slice a3 l3 c3) = W3 at OD3 OI3 OM3 HS3 m3
  go_wp2_with fail
  refine (HVm.out _ _ HS3.out.i HS3.out.m (by omega)).mono ?_; rintro r w4 ⟨⟨v, rfl, ho⟩, hi, hg⟩
  have hc := HS3.out.call hN hi hg
  have OD4 := Lib.hid (own_far (own_far OD3.out hg (by omega)) (grown_set w4 (w.heap.size + 1 + 1) 3 v) (by omega))
  have OI4 := Lib.hid (own_far (own_far OI3.out hg (by omega)) (grown_set w4 (w.heap.size + 1 + 1) 3 v) (by omega))
  have OM4 := Lib.hid (own_far (own_far OM3.out hg (by omega)) (grown_set w4 (w.heap.size + 1 + 1) 3 v) (by omega))
  have OV4 := Lib.hid (own_far (own_low ho HS3.out.sz) (grown_set w4 (w.heap.size + 1 + 1) 3 v) (by omega))
  have HS4 := Lib.hid (hc.stay hN (hc.k.set3 (u := v)) (grown_set w4 (w.heap.size + 1 + 1) 3 v))
  obtain ⟨k0, k1, k2, k3⟩ := hc.k.reads
  obtain ⟨f0, f1, f2, f3⟩ := hc.k.free
  have m4 := HS4.out.m
  obtain ⟨a4, l4, c4, rfl⟩ := own_any ho
  clear ho hi hg hc m3
  generalize hW4 : w4.setCell ⟨w.heap.size + 1 + 1, 3, none⟩ (.slice a4 l4 c4) = W4 at OD4 OI4 OM4 OV4 HS4 m4
  obtain ⟨q0, q1, q2, q3⟩ := HS4.out.k.reads
  obtain ⟨t0, t1, t2, t3⟩ := HS4.out.r.reads
  obtain ⟨g0, g1, g2, g3⟩ := HS4.out.r.free
  go_wp2_with fail
  have hb4 := Box.set3 (u := .slice a4 l4 c4) (Box.set2 (u := .slice a3 l3 c3) (Box.set1 (u := .slice a2 l2 c2) (Box.set0 (u := .slice a1 l1 c1) HS4.out.r)))
  have hgR := grown_then (grown_then (grown_then (grown_set W4 (w.heap.size + 1) 0 (.slice a1 l1 c1)) (grown_set _ (w.heap.size + 1) 1 (.slice a2 l2 c2))) (grown_set _ (w.heap.size + 1) 2 (.slice a3 l3 c3))) (grown_set _ (w.heap.size + 1) 3 (.slice a4 l4 c4))
  obtain ⟨z0, z1, z2, z3⟩ := hb4.reads
  have HI5 := HS4.out.i.far HS4.out.r (by decide) (by omega) hgR
  have HG5 := grown_own HS4.out.g hgR (by omega)
  have d1 := own_far OD4.out hgR (by omega)
  have d2 := own_far OI4.out hgR (by omega)
  have d3 := own_far OM4.out hgR (by omega)
  have d4 := own_far OV4.out hgR (by omega)
  generalize (((W4.setCell ⟨w.heap.size + 1, 0, none⟩ (.slice a1 l1 c1)).setCell ⟨w.heap.size + 1, 1, none⟩ (.slice a2 l2 c2)).setCell ⟨w.heap.size + 1, 2, none⟩ (.slice a3 l3 c3)).setCell ⟨w.heap.size + 1, 3, none⟩ (.slice a4 l4 c4) = W5 at *
  exact bodyPost_ret (v := SchV (.slice a1 l1 c1) (.slice a2 l2 c2) (.slice a3 l3 c3) (.slice a4 l4 c4)) (by simp [results, Try.results47, z0, z1, z2, z3, go_sem]) rfl ⟨_, _, _, _, _, rfl, by rw [HE.out]; exact ⟨d1, d2, d3, d4⟩, by omega, HI5, HG5⟩
set_option maxRecDepth 100000
open Go.RowKit
set_option linter.unusedVariables false
theorem end_st (w : World) (N : Nat) (b : List Int) (s : Nat × Nat) (h : InAt w N b s.1 s.2) (h9 : s.2 < 9) :
    Calls Try.prog 48 #[.pointer (some ⟨N, 0, none⟩)] w fun r w' => r = .returned (.int .i64 (endE b s)) ∧ w.grownBy w' (some N) := by
  obtain ⟨p, e⟩ := s
  simp only at h h9
  unfold endE
  by_cases he : e = 0
  · subst he
    by_cases hp : p < b.length
    · rw [if_pos ⟨rfl, hp⟩]
      refine (end_more w N b p h hp).mono ?_
      rintro r w' ⟨rfl, -, h3⟩
      exact ⟨rfl, h3⟩
    · rw [if_neg (fun q => hp q.2)]
      refine (end_ok w N b p h (by omega)).mono ?_
      rintro r w' ⟨rfl, -, h3⟩
      exact ⟨rfl, grown_below h3 _⟩
  · rw [if_neg (fun q => he q.1)]
    refine (end_shut w _ e (h.shut he (by omega))).mono ?_
    rintro r w' ⟨rfl, rfl⟩
    exact ⟨rfl, World.grownBy.refl w _⟩
theorem zero_sch (w : World) : Sch4 w (.slice none 0 0) (.slice none 0 0) (.slice none 0 0) (.slice none 0 0) zeroS :=
  ⟨⟨none, 0, rfl, by simp [zeroS], by simp [zeroS], .inl rfl⟩, ⟨none, 0, rfl, by simp [zeroS], by simp [zeroS], .inl rfl⟩, ⟨none, 0, rfl, by simp [zeroS], by simp [zeroS], .inl rfl⟩, ⟨none, 0, rfl, by simp [zeroS], .inl rfl⟩⟩
/-- What getting leaves. -/
def GotS (w w' : World) (b : List Int) (r : Ending) : Prop := ∃ D I M V, r = .returned (.tuple #[SchV D I M V, .int .i64 (getE b)]) ∧ Sch4 w' D I M V (getS b) ∧ Below w.heap.size w w'
set_option maxHeartbeats 8000000 in
theorem get_any (w : World) (v : Value) (b : List Int) (hv : Ints .u8 w v b) (hb : Bt b) (hl : b.length ≤ 20000) :
    Calls Try.prog 19 #[v] w fun r w' => GotS w w' b r := by
  have hst := (rd_st hb).2.2.2.2.2.2.2
  have hb0 := below_one w (SchO (.slice none 0 0) (.slice none 0 0) (.slice none 0 0) (.slice none 0 0))
  have hx0 := box_new w (.slice none 0 0) (.slice none 0 0) (.slice none 0 0) (.slice none 0 0)
  have hz0 : (w.alloc (SchO (.slice none 0 0) (.slice none 0 0) (.slice none 0 0) (.slice none 0 0))).heap.size = w.heap.size + 1 := by simp
  have HNw := Lib.hid (newin_any v b _ (hv.below hb0) hb hl)
  have HRd := Lib.hid (fun w1 N (h : InAt w1 N b 0 0) => read_any w1 N b h hb)
  have HEn := Lib.hid (fun w1 N (h : InAt w1 N b (rdV b).2.1 (rdV b).2.2) => end_st w1 N b (rdV b).2 h hst.2)
  have HCk := Lib.hid (fun w1 D I M V (h : Sch4 w1 D I M V (rdS b)) => check_any w1 D I M V (rdS b) h (rdS_wf hb))
  have HG := Lib.hid (show getE b = if endE b (rdV b).2 ≠ 0 then endE b (rdV b).2 else checkL (rdS b) from rfl)
  have HGS := Lib.hid (show getS b = if getE b = 0 then rdS b else zeroS from rfl)
  have HB0 := Lib.hid hb0
  have HX0 := Lib.hid hx0
  obtain ⟨a, cap, rfl, -, -⟩ := hv
  generalize (rdV b).2 = st at *
  generalize rdS b = S at *
  clear hst hb0 hx0 hb hl
  go_enter Try.func19, Try.ntmps19
  go_wp2_with fail
  generalize hW0 : w.alloc (SchO (.slice none 0 0) (.slice none 0 0) (.slice none 0 0) (.slice none 0 0)) = W0 at *
  refine (HNw.out).mono ?_; rintro r w1 ⟨N, rfl, hN, hi, hb1⟩
  have HX1 := Lib.hid (HX0.out.below hb1)
  have HB1 := Lib.hid (below_then HB0.out hb1)
  have HI1 := Lib.hid hi
  clear hi hb1 hW0
  go_wp2_with fail
  refine (HRd.out _ _ HI1.out).mono ?_; rintro r w2 ⟨D, I, M, V, B, rfl, ho, hNB, hi, hg⟩
  have hbx := below_one w2 (SchO D I M V)
  have HK2 := Lib.hid (box_new w2 D I M V)
  have HO2 := Lib.hid (ho.alloc (SchO D I M V))
  have HI2 := Lib.hid (hi.below hbx)
  have HX2 := Lib.hid ((HX1.out.grown hg (by omega)).below hbx)
  have HB2 := Lib.hid (below_then (below_grown HB1.out hg (by omega)) hbx)
  have hN2 : N < w2.heap.size := hi.lt
  have hR2 : w.heap.size < w2.heap.size := by omega
  obtain ⟨⟨a1, l1, c1, rfl⟩, ⟨a2, l2, c2, rfl⟩, ⟨a3, l3, c3, rfl⟩, a4, l4, c4, rfl⟩ := ho.slices
  clear ho hi hg hbx
  go_wp2_with fail
  generalize hW2 : w2.alloc (SchO (.slice a1 l1 c1) (.slice a2 l2 c2) (.slice a3 l3 c3) (.slice a4 l4 c4)) = W2 at *
  refine (HEn.out _ _ HI2.out).mono ?_; rintro r w3 ⟨rfl, hg⟩
  have HK3 := Lib.hid (HK2.out.grown hg (by omega))
  have HO3 := Lib.hid (HO2.out.far hg hNB)
  have HX3 := Lib.hid (HX2.out.grown hg (by omega))
  have HB3 := Lib.hid (below_grown HB2.out hg (by omega))
  obtain ⟨k0, k1, k2, k3⟩ := HK3.out.reads
  obtain ⟨t0, t1, t2, t3⟩ := HX3.out.reads
  obtain ⟨g0, g1, g2, g3⟩ := HX3.out.free
  clear hg hW2
  by_cases he : endE b st = 0
  · rw [he] at HG ⊢
    have HG2 := Lib.hid (show getE b = checkL S from HG.out)
    clear HG he
    go_wp2_with fail
    refine (HCk.out _ _ _ _ _ HO3.out.sch).mono ?_; rintro r w4 ⟨rfl, hb⟩
    have HO4 := Lib.hid (HO3.out.far (grown_below hb (some N)) hNB)
    have HX4 := Lib.hid (HX3.out.below hb)
    have HB4 := Lib.hid (below_then HB3.out hb)
    obtain ⟨k0, k1, k2, k3⟩ := (HK3.out.below hb).reads
    obtain ⟨t0, t1, t2, t3⟩ := HX4.out.reads
    obtain ⟨g0, g1, g2, g3⟩ := HX4.out.free
    clear hb
    by_cases hc : checkL S = 0
    · rw [hc]
      have HE := Lib.hid (show getE b = 0 by rw [HG2.out, hc])
      have HS := Lib.hid (show getS b = S by rw [HGS.out, if_pos HE.out])
      clear hc
      go_wp2_with fail
      have hb5 := Box.set3 (u := .slice a4 l4 c4) (Box.set2 (u := .slice a3 l3 c3) (Box.set1 (u := .slice a2 l2 c2) (Box.set0 (u := .slice a1 l1 c1) HX4.out)))
      have hgR := grown_then (grown_then (grown_then (grown_set w4 w.heap.size 0 (.slice a1 l1 c1)) (grown_set _ w.heap.size 1 (.slice a2 l2 c2))) (grown_set _ w.heap.size 2 (.slice a3 l3 c3))) (grown_set _ w.heap.size 3 (.slice a4 l4 c4))
      obtain ⟨z0, z1, z2, z3⟩ := hb5.reads
      have HO5 := HO4.out.far hgR (by omega)
      have HB5 := below_grown HB4.out hgR (Nat.le_refl _)
      generalize (((w4.setCell ⟨w.heap.size, 0, none⟩ (.slice a1 l1 c1)).setCell ⟨w.heap.size, 1, none⟩ (.slice a2 l2 c2)).setCell ⟨w.heap.size, 2, none⟩ (.slice a3 l3 c3)).setCell ⟨w.heap.size, 3, none⟩ (.slice a4 l4 c4) = W5 at *
      exact bodyPost_ret (v := .tuple #[SchV (.slice a1 l1 c1) (.slice a2 l2 c2) (.slice a3 l3 c3) (.slice a4 l4 c4), .int .i64 0]) (by simp [results, Try.results19, z0, z1, z2, z3, go_sem]) rfl ⟨_, _, _, _, by rw [HE.out]; rfl, by rw [HS.out]; exact HO5.sch, HB5⟩
    · have HE := Lib.hid (show getE b = checkL S from HG2.out)
      have HS := Lib.hid (show getS b = zeroS by rw [HGS.out, if_neg (by rw [HE.out]; exact hc)])
      have hc2 : ((checkL S : Int) != 0) = true := by simp; omega
      generalize hck : (checkL S : Int) = ck at *
      have HCK := Lib.hid hck
      clear hc hck
      go_wp2_with fail
      have hb5 := Box.set3 (u := .slice none 0 0) (Box.set2 (u := .slice none 0 0) (Box.set1 (u := .slice none 0 0) (Box.set0 (u := .slice none 0 0) HX4.out)))
      have hgR := grown_then (grown_then (grown_then (grown_set w4 w.heap.size 0 (.slice none 0 0)) (grown_set _ w.heap.size 1 (.slice none 0 0))) (grown_set _ w.heap.size 2 (.slice none 0 0))) (grown_set _ w.heap.size 3 (.slice none 0 0))
      obtain ⟨z0, z1, z2, z3⟩ := hb5.reads
      have HB5 := below_grown HB4.out hgR (Nat.le_refl _)
      generalize (((w4.setCell ⟨w.heap.size, 0, none⟩ (.slice none 0 0)).setCell ⟨w.heap.size, 1, none⟩ (.slice none 0 0)).setCell ⟨w.heap.size, 2, none⟩ (.slice none 0 0)).setCell ⟨w.heap.size, 3, none⟩ (.slice none 0 0) = W5 at *
      exact bodyPost_ret (v := .tuple #[SchV (.slice none 0 0) (.slice none 0 0) (.slice none 0 0) (.slice none 0 0), .int .i64 ck]) (by simp [results, Try.results19, z0, z1, z2, z3, go_sem]) rfl ⟨_, _, _, _, by rw [HE.out, HCK.out], by rw [HS.out]; exact zero_sch _, HB5⟩
  · have HE := Lib.hid (show getE b = endE b st by rw [HG.out, if_pos he])
    have HS := Lib.hid (show getS b = zeroS by rw [HGS.out, if_neg (by rw [HE.out]; exact he)])
    have hc2 : ((endE b st : Int) != 0) = true := by simp; omega
    have hc3 : ((endE b st : Int) == 0) = false := by simp; omega
    generalize hck : (endE b st : Int) = ck at *
    have HCK := Lib.hid hck
    clear he hck
    go_wp2_with fail
    have hb5 := Box.set3 (u := .slice none 0 0) (Box.set2 (u := .slice none 0 0) (Box.set1 (u := .slice none 0 0) (Box.set0 (u := .slice none 0 0) HX3.out)))
    have hgR := grown_then (grown_then (grown_then (grown_set w3 w.heap.size 0 (.slice none 0 0)) (grown_set _ w.heap.size 1 (.slice none 0 0))) (grown_set _ w.heap.size 2 (.slice none 0 0))) (grown_set _ w.heap.size 3 (.slice none 0 0))
    obtain ⟨z0, z1, z2, z3⟩ := hb5.reads
    have HB5 := below_grown HB3.out hgR (Nat.le_refl _)
    generalize (((w3.setCell ⟨w.heap.size, 0, none⟩ (.slice none 0 0)).setCell ⟨w.heap.size, 1, none⟩ (.slice none 0 0)).setCell ⟨w.heap.size, 2, none⟩ (.slice none 0 0)).setCell ⟨w.heap.size, 3, none⟩ (.slice none 0 0) = W5 at *
    exact bodyPost_ret (v := .tuple #[SchV (.slice none 0 0) (.slice none 0 0) (.slice none 0 0) (.slice none 0 0), .int .i64 ck]) (by simp [results, Try.results19, z0, z1, z2, z3, go_sem]) rfl ⟨_, _, _, _, by rw [HE.out, HCK.out], by rw [HS.out]; exact zero_sch _, HB5⟩
end Go.Proofs.Ytdlebcjkokabjaa
