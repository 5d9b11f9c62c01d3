/- What the reader finds as bytes. -/
import Derived.Test.YtdnbjaeeebodkaaGreatCodem
namespace Go.Proofs.YtdnbjaeeebodkaaGreat
set_option maxRecDepth 100000
open Go.RowKit
set_option linter.unusedVariables false
theorem grown_below {w w' : World} (hb : Below w.heap.size w w') (row : Option Nat) : w.grownBy w' row := ⟨hb.os, hb.tape, hb.output, hb.size, fun k hk _ => hb.block k hk⟩
theorem grown_then {a b c : World} {N : Nat} (h : a.grownBy b (some N)) (k : b.grownBy c (some N)) : a.grownBy c (some N) :=
  ⟨k.os.trans h.os, k.tape.trans h.tape, k.output.trans h.output, Nat.le_trans h.size k.size, fun i hi hn => (k.block i (Nat.lt_of_lt_of_le hi h.size) hn).trans (h.block i hi hn)⟩
theorem grown_set (w : World) (N j : Nat) (u : Value) : w.grownBy (w.setCell ⟨N, j, none⟩ u) (some N) :=
  ⟨rfl, rfl, rfl, by simp [World.setCell], fun k _ hn => Below.heap_setCell _ _ _ _ (by simpa using hn)⟩
theorem grown_drew {w w' : World} {row : Option Nat} (h : w.grownBy w' row) : w.grownBy w'.drew row := ⟨h.os, h.tape, h.output, h.size, h.block⟩
theorem below_grown {w0 w w' : World} {N : Nat} (h : Below w0.heap.size w0 w) (g : w.grownBy w' (some N)) (hN : w0.heap.size ≤ N) : Below w0.heap.size w0 w' :=
  h.grown g h.size (fun k hk => by have e : N = k := Option.some.inj hk; omega)
theorem Ints.grown {E T : TypeId} {k : IntKind} {w w' : World} {v : Value} {zs : List Int} {N : Nat} {cur : Array Value} {fr : Nat × Nat} (h : Ints k w v zs) (ht : Typed E w v) (hp : w.heap[N]? = some (.cells cur T fr)) (hne : T ≠ E) (hg : w.grownBy w' (some N)) : Ints k w' v zs := by
  obtain ⟨a, cap, rfl, hl, hc⟩ := h
  refine ⟨a, cap, rfl, hl, hc.imp id ?_⟩
  rintro ⟨b, off, rfl, hb, hcell⟩
  have hbN : b ≠ N := by
    rintro rfl
    obtain ⟨cur', fr', h'⟩ := ht b off _ _ rfl
    rw [hp] at h'
    simp only [Option.some.injEq, Obj.cells.injEq] at h'
    exact hne h'.2.1
  have hblk := hg.block b hb (by simpa using hbN)
  refine ⟨b, off, rfl, by have := hg.size; omega, fun i hi => ?_⟩
  rw [World.cell?_of_block (a := ⟨b, off + i, none⟩) hblk]; exact hcell i hi
theorem Typed.grown {E T : TypeId} {w w' : World} {v : Value} {N : Nat} {cur : Array Value} {fr : Nat × Nat} (ht : Typed E w v) (hp : w.heap[N]? = some (.cells cur T fr)) (hne : T ≠ E) (hg : w.grownBy w' (some N)) : Typed E w' v := by
  intro b off l c e
  obtain ⟨cur', fr', h'⟩ := ht b off l c e
  refine ⟨cur', fr', ?_⟩
  rw [hg.block b (Array.getElem?_eq_some_iff.1 h').1 ?_]
  · exact h'
  · intro e2
    simp only [Option.some.injEq] at e2
    subst e2
    rw [hp] at h'
    simp only [Option.some.injEq, Obj.cells.injEq] at h'
    exact hne h'.2.1
/-- The four cells of a reader. -/
def In4 (w : World) (N : Nat) (v : Value) (p e : Nat) : Prop := w.heap[N]? = some (.cells #[v, .int .i64 p, .int .i64 e, .bool true] 94 (0, 0))
theorem In4.reads {w : World} {N : Nat} {v : Value} {p e : Nat} (h : In4 w N v p e) :
    w.cell? ⟨N, 0, none⟩ = some v ∧ w.cell? ⟨N, 1, none⟩ = some (.int .i64 p) ∧ w.cell? ⟨N, 2, none⟩ = some (.int .i64 e) ∧ w.cell? ⟨N, 3, none⟩ = some (.bool true) := by
  unfold In4 at h
  refine ⟨by simp [World.cell?, h], by simp [World.cell?, h], by simp [World.cell?, h], by simp [World.cell?, h]⟩
theorem In4.free {w : World} {N : Nat} {v : Value} {p e : Nat} (h : In4 w N v p e) : w.frozen? ⟨N, 1, none⟩ = false ∧ w.frozen? ⟨N, 2, none⟩ = false := by
  unfold In4 at h
  refine ⟨by simp [World.frozen?, h], by simp [World.frozen?, h]⟩
theorem In4.lt {w : World} {N : Nat} {v : Value} {p e : Nat} (h : In4 w N v p e) : N < w.heap.size := (Array.getElem?_eq_some_iff.1 h).1
theorem In4.below {w w' : World} {N : Nat} {v : Value} {p e : Nat} (h : In4 w N v p e) (hb : Below w.heap.size w w') : In4 w' N v p e := by
  unfold In4; rw [hb.block N h.lt]; exact h
/-- A reader of bytes b, at position p, with the error e (0: none). -/
def InAt (w : World) (N : Nat) (b : List Int) (p e : Nat) : Prop := ∃ v, In4 w N v p e ∧ Ints .u8 w v b ∧ Typed 5 w v ∧ Bt b ∧ b.length ≤ 20000 ∧ p ≤ b.length
theorem InAt.lt {w : World} {N : Nat} {b : List Int} {p e : Nat} (h : InAt w N b p e) : N < w.heap.size := by obtain ⟨v, h, -⟩ := h; exact h.lt
theorem InAt.below {w w' : World} {N : Nat} {b : List Int} {p e : Nat} (h : InAt w N b p e) (hb : Below w.heap.size w w') : InAt w' N b p e := by
  obtain ⟨v, h1, h2, h3, h4⟩ := h
  exact ⟨v, h1.below hb, h2.below hb, h3.below hb, h4⟩
theorem InAt.pos {w : World} {N : Nat} {b : List Int} {p e : Nat} (h : InAt w N b p e) {q : Nat} (hq : q ≤ b.length) : InAt (w.setCell ⟨N, 1, none⟩ (.int .i64 q)) N b q e := by
  obtain ⟨v, h1, h2, h3, h4, h5, h6⟩ := h
  refine ⟨v, ?_, h2.grown h3 h1 (by decide) (grown_set w N 1 _), h3.grown h1 (by decide) (grown_set w N 1 _), h4, h5, hq⟩
  have := heap_setCell_same w N 1 _ _ (.int .i64 q) h1
  exact this
theorem InAt.err {w : World} {N : Nat} {b : List Int} {p e : Nat} (h : InAt w N b p e) (f : Nat) : InAt (w.setCell ⟨N, 2, none⟩ (.int .i64 f)) N b p f := by
  obtain ⟨v, h1, h2, h3, h4, h5, h6⟩ := h
  refine ⟨v, ?_, h2.grown h3 h1 (by decide) (grown_set w N 2 _), h3.grown h1 (by decide) (grown_set w N 2 _), h4, h5, h6⟩
  have := heap_setCell_same w N 2 _ _ (.int .i64 f) h1
  exact this
/-- A part of a slice. -/
theorem cut_ints {w : World} {a : Option Addr} {cap : Nat} {b : List Int} (hv : Ints .u8 w (.slice a b.length cap) b) {k h : Nat} (hk : k ≤ h) (hh : h ≤ b.length) :
    Ints .u8 w (.slice (if cap = k then a else a.map (·.add (k * 1))) (h - k) (cap - k)) ((b.take h).drop k) := by
  obtain ⟨a', cap', e, hc, ha⟩ := hv
  simp only [Value.slice.injEq, true_and] at e
  obtain ⟨rfl, rfl⟩ := e
  have hl : ((b.take h).drop k).length = h - k := by simp; omega
  by_cases h0 : h = k
  · subst h0
    refine ⟨_, _, by rw [hl], by rw [hl]; omega, .inl ?_⟩
    exact List.length_eq_zero_iff.1 (by rw [hl]; omega)
  · rcases ha with h' | ⟨bb, off, rfl, hbl, hcell⟩
    · subst h'; simp at hh; omega
    · rw [if_neg (by omega)]
      refine ⟨some ⟨bb, off + k, none⟩, cap - k, ?_, by rw [hl]; omega, .inr ⟨bb, off + k, rfl, hbl, fun i hi => ?_⟩⟩
      · rw [hl, Nat.mul_one]
        by_cases k0 : k = 0
        · subst k0; simp [Addr.add]
        · simp [Addr.add, k0]
      · rw [hl] at hi
        have := hcell (k + i) (by omega)
        rw [show off + k + i = off + (k + i) by omega, this]
        congr 2
        simp [List.getD, show k + i < b.length by omega, show k + i < h by omega, List.getElem?_drop]
theorem drop_as {b : List Int} (k : Nat) : (b.take b.length).drop k = b.drop k := by rw [List.take_length]
theorem run_from {w : World} {a : Option Addr} {cap l k : Nat} (hk : k ≤ l) (hs : ∃ i, Tryz.prog.info? 5 = some i ∧ i.size = 1) : (Instr.slice 27 (.slice a l cap) (some (.int .i64 k)) none none).run Tryz.prog w = .ok (.slice (if cap = k then a else a.map (·.add (k * 1))) (l - k) (cap - k)) w := by
  obtain ⟨i, hi, hs⟩ := hs
  simp [Instr.slice, run_underlying Tryz.underlying27, Instr.sliceBounds, Instr.sliceBound, asIntOf, sizeOf, typeInfo, hi, hs, hk, go_sem]
theorem run_part {w : World} {a : Option Addr} {cap l k h : Nat} (hk : k ≤ h) (hh : h ≤ cap) (hs : ∃ i, Tryz.prog.info? 5 = some i ∧ i.size = 1) : (Instr.slice 27 (.slice a l cap) (some (.int .i64 k)) (some (.int .i64 h)) none).run Tryz.prog w = .ok (.slice (if cap = k then a else a.map (·.add (k * 1))) (h - k) (cap - k)) w := by
  obtain ⟨i, hi, hs⟩ := hs
  simp [Instr.slice, run_underlying Tryz.underlying27, Instr.sliceBounds, Instr.sliceBound, asIntOf, sizeOf, typeInfo, hi, hs, hk, hh, go_sem]
theorem size1 : ∃ i, Tryz.prog.info? 5 = some i ∧ i.size = 1 := by
  obtain ⟨i0, hi, hz0, hz1, hz2⟩ := info_parts Tryz.infoU8
  exact ⟨i0, hi, hz1⟩
theorem tail_any {w : World} {a : Option Addr} {cap k : Nat} {b : List Int} (hv : Ints .u8 w (.slice a b.length cap) b) (hk : k ≤ b.length) :
    ∃ u c, (∀ w', (Instr.slice 27 (.slice a b.length cap) (some (.int .i64 k)) none none).run Tryz.prog w' = .ok (.slice u (b.length - k) c) w') ∧ Ints .u8 w (.slice u (b.length - k) c) (b.drop k) :=
  ⟨_, _, fun w' => run_from hk size1, by have := cut_ints hv hk (Nat.le_refl _); rwa [drop_as] at this⟩
theorem part_any {w : World} {a : Option Addr} {cap k h : Nat} {b : List Int} (hv : Ints .u8 w (.slice a b.length cap) b) (hk : k ≤ h) (hh : h ≤ b.length) :
    ∃ u c, (∀ w', (Instr.slice 27 (.slice a b.length cap) (some (.int .i64 k)) (some (.int .i64 h)) none).run Tryz.prog w' = .ok (.slice u (h - k) c) w') ∧ Ints .u8 w (.slice u (h - k) c) ((b.take h).drop k) := by
  have hc : b.length ≤ cap := by
    obtain ⟨a', cap', e, hc, -⟩ := hv
    simp only [Value.slice.injEq, true_and] at e
    obtain ⟨rfl, rfl⟩ := e
    exact hc
  exact ⟨_, _, fun w' => run_part hk (by omega) size1, cut_ints hv hk hh⟩
/-- What is read as a number of at most most, as a text of at most most, as bytes of at most most, as a float. -/
def uN (most : Int) (r : Int × Nat × Nat) : Int × Nat × Nat := if r.2.2 = 0 ∧ most < r.1 then (0, 0, 2) else r
def tN (most : Int) (r : List Int × Nat × Nat) : List Int × Nat × Nat := if r.2.2 = 0 ∧ max most 0 < (r.1.length : Int) then ([], 0, 4) else r
def bN (most : Int) (b : List Int) : List Int × Nat × Nat :=
  if (getU b).2.2 ≠ 0 then ([], 0, (getU b).2.2) else if max most 0 < (getU b).1 then ([], 0, 4) else if ((b.length - (getU b).2.1 : Nat) : Int) < (getU b).1 then ([], 0, 5)
  else ((b.drop (getU b).2.1).take (getU b).1.toNat, (getU b).2.1 + (getU b).1.toNat, 0)
def fN (r : Int × Nat) : Int × Nat × Nat := if r.2 = 0 then (r.1, 8, 0) else (0, 0, r.2)
theorem getU_fit {b : List Int} (hb : Bt b) : ((getU b).2.2 = 0 → (getU b).2.1 ≤ b.length ∧ 0 ≤ (getU b).1 ∧ (getU b).1 < 18446744073709551616) ∧ (getU b).2.2 < 9 := by
  cases b with
  | nil => simp [getU]
  | cons h t =>
    rw [getU_cons]
    split
    · simp
    · split
      · simp
      · rename_i h1 h2
        refine ⟨fun _ => ?_, by simp⟩
        have h8 : h.toNat ≤ 8 := by omega
        have := fill_range (hb.tail) (f := 0) (by decide) (by decide) h.toNat
        have hp : (256 : Int) ^ h.toNat ≤ 256 ^ 8 := by
          rw [show (256 : Int) = ((256 : Nat) : Int) by rfl, ← Int.natCast_pow, ← Int.natCast_pow]
          exact Int.ofNat_le.2 (Nat.pow_le_pow_right (by decide) h8)
        have h88 : (256 : Int) ^ 8 = 18446744073709551616 := by decide
        refine ⟨by simp; omega, this.1, by omega⟩
theorem getU_zero {b : List Int} (h : (getU b).2.2 ≠ 0) : (getU b).1 = 0 ∧ (getU b).2.1 = 0 := by
  cases b with
  | nil => simp [getU]
  | cons c t =>
    rw [getU_cons] at h ⊢
    split
    · simp
    · split
      · simp
      · rename_i h1 h2; rw [if_neg h1, if_neg h2] at h; simp at h
theorem getI_fit {b : List Int} : ((getI b).2.2 = 0 → (getI b).2.1 ≤ b.length) ∧ (getI b).2.2 < 9 := by
  cases b with
  | nil => simp [getI]
  | cons h t =>
    rw [getI_cons]
    split
    · simp
    · split
      · simp
      · exact ⟨fun _ => by simp; omega, by simp⟩
theorem getI_zero {b : List Int} (h : (getI b).2.2 ≠ 0) : (getI b).1 = 0 ∧ (getI b).2.1 = 0 := by
  cases b with
  | nil => simp [getI]
  | cons c t =>
    rw [getI_cons] at h ⊢
    split
    · simp
    · split
      · simp
      · rename_i h1 h2; rw [if_neg h1, if_neg h2] at h; simp at h
theorem getT_fit : ∀ (b acc : List Int) (i : Nat), (((getT b acc i).2.2 = 0 → (getT b acc i).2.1 ≤ i + b.length ∧ (getT b acc i).1.length ≤ acc.length + b.length) ∧ (getT b acc i).2.2 < 9 ∧ ((getT b acc i).2.2 ≠ 0 → (getT b acc i).1 = [] ∧ (getT b acc i).2.1 = 0))
  | [], acc, i => by simp [getT_nil]
  | [c], acc, i => by simp [getT_one]
  | c :: d :: t, acc, i => by
    by_cases h : c = 0
    · subst h
      by_cases h0 : d = 0
      · subst h0; rw [getT_stop]; simp
      · by_cases h1 : d = 1
        · subst h1; rw [getT_zero]
          have := getT_fit t (acc ++ [0]) (i + 2)
          refine ⟨fun h => ?_, this.2⟩
          have := this.1 h
          simp at this ⊢; omega
        · rw [getT_bad h0 h1]; simp
    · rw [getT_char h]
      have := getT_fit (d :: t) (acc ++ [c]) (i + 1)
      refine ⟨fun h => ?_, this.2⟩
      have := this.1 h
      simp at this ⊢; omega
theorem getF_fit {b : List Int} : ((getF b).2 = 0 → 8 ≤ b.length) ∧ (getF b).2 < 9 := by
  unfold getF
  repeat' split
  all_goals (first | (simp; done) | (simp; omega))
set_option maxRecDepth 100000
open Go.RowKit
set_option linter.unusedVariables false
theorem failed_any (w : World) (N : Nat) (b : List Int) (p e : Nat) (h : InAt w N b p e) :
    Calls Tryz.prog 49 #[.pointer (some ⟨N, 0, none⟩)] w fun r w' => r = .returned (.int .i64 e) ∧ w = w' := by
  obtain ⟨v, h, -⟩ := h
  obtain ⟨r0, r1, r2, r3⟩ := h.reads
  clear h
  go_enter Tryz.func49, Tryz.ntmps49
  go_wp2_with fail
  go_ret
  exact ⟨rfl, rfl⟩
/-- A reader that was not made, or none. -/
def NoIn (w : World) (v : Value) : Prop := v = .pointer none ∨ ∃ N, v = .pointer (some ⟨N, 0, none⟩) ∧ w.heap[N]? = some (.cells #[.slice none 0 0, .int .i64 0, .int .i64 0, .bool false] 94 (0, 0))
theorem NoIn.below {w w' : World} {v : Value} (h : NoIn w v) (hb : Below w.heap.size w w') : NoIn w' v := by
  rcases h with rfl | ⟨N, rfl, h⟩
  · exact .inl rfl
  · exact .inr ⟨N, rfl, by rw [hb.block N (Array.getElem?_eq_some_iff.1 h).1]; exact h⟩
theorem failed_no (w : World) (v : Value) (h : NoIn w v) :
    Calls Tryz.prog 49 #[v] w fun r w' => r = .returned (.int .i64 15) ∧ w = w' := by
  rcases h with rfl | ⟨N, rfl, h⟩
  · go_enter Tryz.func49, Tryz.ntmps49
    go_wp2_with fail
    go_ret
    exact ⟨rfl, rfl⟩
  · have r3 : w.cell? ⟨N, 3, none⟩ = some (.bool false) := by simp [World.cell?, h]
    clear h
    go_enter Tryz.func49, Tryz.ntmps49
    go_wp2_with fail
    go_ret
    exact ⟨rfl, rfl⟩
/-- A reader that reads nothing any more: its error is e. -/
def Shut (v : Value) (e : Nat) (w : World) : Prop := e ≠ 0 ∧ e < 100 ∧ ∀ w', Below w.heap.size w w' → Calls Tryz.prog 49 #[v] w' fun r w2 => r = .returned (.int .i64 e) ∧ w' = w2
theorem Shut.below {v : Value} {e : Nat} {w w' : World} (h : Shut v e w) (hb : Below w.heap.size w w') : Shut v e w' := ⟨h.1, h.2.1, fun w2 h2 => h.2.2 w2 (hb.trans (h2.mono hb.size))⟩
theorem InAt.shut {w : World} {N : Nat} {b : List Int} {p e : Nat} (h : InAt w N b p e) (he : e ≠ 0) (h9 : e < 100) : Shut (.pointer (some ⟨N, 0, none⟩)) e w := ⟨he, h9, fun w' hb => failed_any w' N b p e (h.below hb)⟩
theorem NoIn.shut {w : World} {v : Value} (h : NoIn w v) : Shut v 15 w := ⟨by decide, by decide, fun w' hb => failed_no w' v (h.below hb)⟩
theorem left_any (w : World) (N : Nat) (b : List Int) (p : Nat) (h : InAt w N b p 0) :
    Calls Tryz.prog 54 #[.pointer (some ⟨N, 0, none⟩)] w fun r w' => r = .returned (.int .i64 ((b.length - p : Nat) : Int)) ∧ Below w.heap.size w w' := by
  have HF := Lib.hid (failed_any w N b p 0 h)
  obtain ⟨v, h, hv, -, -, hl, hp⟩ := h
  obtain ⟨r0, r1, r2, r3⟩ := h.reads
  obtain ⟨a, cap, rfl, -, -⟩ := hv
  have i1 : IntKind.i64.wrap ((b.length : Int) - (p : Int)) = ((b.length - p : Nat) : Int) := by rw [IntWalk.i64_in _ (by omega)]; omega
  clear h
  go_enter Tryz.func54, Tryz.ntmps54
  go_wp2_with fail
  refine (HF.out).mono ?_; rintro r w1 ⟨rfl, rfl⟩
  go_upto_region 3 with fail
  go_region
  all_goals
    go_wp2_with fail
    go_ret
    exact ⟨rfl, (Below.refl _ _).drew⟩
theorem left_shut (w : World) (v : Value) (e : Nat) (h : Shut v e w) :
    Calls Tryz.prog 54 #[v] w fun r w' => r = .returned (.int .i64 0) ∧ w = w' := by
  have HF := Lib.hid (h.2.2 w (Below.refl _ _))
  have he : ((e : Int) != 0) = true := by have := h.1; simp; omega
  clear h
  go_enter Tryz.func54, Tryz.ntmps54
  go_wp2_with fail
  refine (HF.out).mono ?_; rintro r w1 ⟨rfl, rfl⟩
  go_wp2_with fail
  go_ret
  exact ⟨rfl, rfl⟩
theorem fault_ok (w : World) (N : Nat) (b : List Int) (p : Nat) (h : InAt w N b p 0) :
    Calls Tryz.prog 15 #[.pointer (some ⟨N, 0, none⟩)] w fun r w' => r = .returned (.tuple #[.int .i64 0, .int .i64 0]) ∧ w = w' := by
  have HF := Lib.hid (failed_any w N b p 0 h)
  clear h
  go_enter Tryz.func15, Tryz.ntmps15
  go_wp2_with fail
  refine (HF.out).mono ?_; rintro r w1 ⟨rfl, rfl⟩
  go_wp2_with fail
  exact bodyPost_ret (v := .tuple #[.int .i64 0, .int .i64 0]) (by simp [results, Tryz.results15, go_sem]) rfl ⟨rfl, rfl⟩
theorem fault_no (w : World) (v : Value) (h : NoIn w v) :
    Calls Tryz.prog 15 #[v] w fun r w' => r = .returned (.tuple #[.int .i64 0, .int .i64 15]) ∧ w = w' := by
  have HF := Lib.hid (failed_no w v h)
  clear h
  go_enter Tryz.func15, Tryz.ntmps15
  go_wp2_with fail
  refine (HF.out).mono ?_; rintro r w1 ⟨rfl, rfl⟩
  go_wp2_with fail
  exact bodyPost_ret (v := .tuple #[.int .i64 0, .int .i64 15]) (by simp [results, Tryz.results15, go_sem]) rfl ⟨rfl, rfl⟩
theorem fault_err (w : World) (N : Nat) (b : List Int) (p e : Nat) (h : InAt w N b p e) (he : e ≠ 0) (h9 : e < 9) :
    Calls Tryz.prog 15 #[.pointer (some ⟨N, 0, none⟩)] w fun r w' => r = .returned (.tuple #[.int .i64 p, .int .i64 e]) ∧ w = w' := by
  have HF := Lib.hid (failed_any w N b p e h)
  obtain ⟨v, h, -⟩ := h
  obtain ⟨r0, r1, r2, r3⟩ := h.reads
  have e0 : ((e : Int) == 0) = false := by simp; omega
  have e1 : ((e : Int) == 15) = false := by simp; omega
  clear h
  go_enter Tryz.func15, Tryz.ntmps15
  go_wp2_with fail
  refine (HF.out).mono ?_; rintro r w1 ⟨rfl, rfl⟩
  go_wp2_with fail
  exact bodyPost_ret (v := .tuple #[.int .i64 p, .int .i64 e]) (by simp [results, Tryz.results15, go_sem]) rfl ⟨rfl, rfl⟩
theorem end_ok (w : World) (N : Nat) (b : List Int) (p : Nat) (h : InAt w N b p 0) (hp : b.length ≤ p) :
    Calls Tryz.prog 17 #[.pointer (some ⟨N, 0, none⟩)] w fun r w' => r = .returned (.int .i64 0) ∧ InAt w' N b p 0 ∧ Below w.heap.size w w' := by
  have HL := Lib.hid (left_any w N b p h)
  rw [show b.length - p = 0 by omega] at HL
  have HF := Lib.hid (fun w' (hb : Below w.heap.size w w') => failed_any w' N b p 0 (h.below hb))
  have HI := Lib.hid h
  clear h
  go_enter Tryz.func17, Tryz.ntmps17
  go_wp2_with fail
  refine (HL.out).mono ?_; rintro r w1 ⟨rfl, hb⟩
  have HB := Lib.hid hb
  clear hb
  go_wp2_with fail
  refine (HF.out _ HB.out).mono ?_; rintro r w2 ⟨rfl, rfl⟩
  go_wp2_with fail
  go_ret
  exact ⟨rfl, HI.out.below HB.out, HB.out⟩
theorem end_more (w : World) (N : Nat) (b : List Int) (p : Nat) (h : InAt w N b p 0) (hp : p < b.length) :
    Calls Tryz.prog 17 #[.pointer (some ⟨N, 0, none⟩)] w fun r w' => r = .returned (.int .i64 7) ∧ InAt w' N b p 7 ∧ w.grownBy w' (some N) := by
  have HL := Lib.hid (left_any w N b p h)
  obtain ⟨n, hn⟩ : ∃ n, b.length - p = n := ⟨_, rfl⟩
  rw [hn] at HL
  have i1 : (0 : Int) < (n : Int) := by omega
  have HI := Lib.hid h
  clear h hn
  go_enter Tryz.func17, Tryz.ntmps17
  go_wp2_with fail
  refine (HL.out).mono ?_; rintro r w1 ⟨rfl, hb⟩
  have h1 := HI.out.below hb
  have HG := Lib.hid (grown_then (grown_below hb (some N)) (grown_set w1 N 2 (.int .i64 7)))
  have HE := Lib.hid (h1.err 7)
  obtain ⟨v, h1, -⟩ := h1
  obtain ⟨r0, r1, r2, r3⟩ := h1.reads
  obtain ⟨f1, f2⟩ := h1.free
  have HF := Lib.hid (failed_any _ N b p 7 HE.out)
  clear h1 hb
  go_wp2_with fail
  refine (HF.out).mono ?_; rintro r w2 ⟨rfl, rfl⟩
  go_wp2_with fail
  go_ret
  exact ⟨rfl, HE.out, HG.out⟩
theorem end_shut (w : World) (v : Value) (e : Nat) (h : Shut v e w) :
    Calls Tryz.prog 17 #[v] w fun r w' => r = .returned (.int .i64 e) ∧ w = w' := by
  have HL := Lib.hid (left_shut w v e h)
  have HF := Lib.hid (h.2.2 w (Below.refl _ _))
  clear h
  go_enter Tryz.func17, Tryz.ntmps17
  go_wp2_with fail
  refine (HL.out).mono ?_; rintro r w1 ⟨rfl, rfl⟩
  go_wp2_with fail
  refine (HF.out).mono ?_; rintro r w2 ⟨rfl, rfl⟩
  go_wp2_with fail
  go_ret
  exact ⟨rfl, rfl⟩
set_option maxRecDepth 100000
open Go.RowKit
set_option linter.unusedVariables false
theorem BytesP.ints {w w' : World} {l : List Int} {e : Ending} (h : BytesP w l e w') : ∃ v, e = .returned v ∧ Ints .u8 w' v l ∧ Typed 5 w' v ∧ Below w.heap.size w w' := by
  obtain ⟨⟨v, rfl, ho⟩, hb⟩ := h
  exact ⟨v, rfl, Ints.own ho, Typed.own ho, hb⟩
theorem own_lit0 (w : World) : BOwn (w.alloc (.cells #[] 5)) w.heap.size (.slice (some ⟨w.heap.size, 0, none⟩) 0 0) [] :=
  ⟨by simp, .inr ⟨w.heap.size, 0, _, rfl, Nat.le_refl _, heap_alloc_new w _, by simp, by decide, by simp, by simp⟩⟩
theorem clone_any (v : Value) (l : List Int) (w : World) (hv : Ints .u8 w v l) (hl : l.length ≤ 20000) : Calls Tryz.prog 45 #[v] w (BytesP w l) := by
  obtain ⟨i0, hi, hz0, hz1, hz2⟩ := info_parts Tryz.infoU8
  have HV := Lib.hid hv
  obtain ⟨a, cap, rfl, hcap, ha⟩ := hv
  cases a with
  | none =>
    have hn : l = [] := by
      rcases ha with h | ⟨b, off, h, _⟩
      · exact h
      · cases h
    subst hn
    have hop := fun w => Lib.run_eql_slice_nil (P := Tryz.prog) w 27 5 none 0 cap 0 0 Tryz.underlying27
    go_enter Tryz.func45, Tryz.ntmps45
    go_wp2_with fail
    go_ret
    exact ⟨⟨_, rfl, own0 w _⟩, Below.refl _ _⟩
  | some ad =>
    clear ha
    have hop := fun w => Lib.run_eql_slice_nil (P := Tryz.prog) w 27 5 (some ad) l.length cap 0 0 Tryz.underlying27
    have HB := Lib.hid (below_one w (.cells #[] 5))
    go_enter Tryz.func45, Tryz.ntmps45
    go_wp2_with (at_builtin; refine wpList_append_want _ (by rfl) _ _ 27 rfl w.heap.size 5 i0 (.int .u8 0) 1 Tryz.underlying27 hi hz0 hz1 hz2 rfl .u8 _ _ [] l rfl rfl (own_lit0 w) (HV.out.below HB.out) (by unfold maxLen; simp; omega) (by simp; omega) (by simp) ?_; intro v' w1 hown hgrow; have HQ := Lib.hid (And.intro hown (HB.out.grown hgrow (by simp) (fun k hk => by have e : w.heap.size = k := Option.some.inj hk; omega))); obtain ⟨pv', lv', cv', rfl⟩ := own_slice3 hown; clear hown hgrow)
    go_ret
    exact ⟨⟨_, rfl, HQ.out.1⟩, HQ.out.2⟩
theorem new_in (w : World) (v : Value) (l : List Int) (N : Nat) (hN : w.heap.size = N) (hv : Ints .u8 w v l) (ht : Typed 5 w v) (hb : Bt l) (hl : l.length ≤ 20000) :
    InAt (w.alloc (.cells #[v, .int .i64 0, .int .i64 0, .bool true] 94)) N l 0 0 := by
  subst hN
  have := below_one w (.cells #[v, .int .i64 0, .int .i64 0, .bool true] 94)
  exact ⟨v, heap_alloc_new w _, hv.below this, ht.below this, hb, hl, Nat.zero_le _⟩
theorem newin_any (v : Value) (l : List Int) (w : World) (hv : Ints .u8 w v l) (hb : Bt l) (hl : l.length ≤ 20000) :
    Calls Tryz.prog 13 #[v] w fun r w' => ∃ N, r = .returned (.pointer (some ⟨N, 0, none⟩)) ∧ w.heap.size ≤ N ∧ InAt w' N l 0 0 ∧ Below w.heap.size w w' := by
  have HC := Lib.hid (clone_any v l w hv hl)
  obtain ⟨a, cap, rfl, -, -⟩ := hv
  go_enter Tryz.func13, Tryz.ntmps13
  go_wp2_with fail
  refine (HC.out).mono ?_; intro r w1 hr
  obtain ⟨v', rfl, h1, h2, h3⟩ := hr.ints
  have HI := Lib.hid (new_in w1 v' l _ rfl h1 h2 hb hl)
  have HB := Lib.hid (And.intro h3.size (below_then h3 (below_one w1 (.cells #[v', .int .i64 0, .int .i64 0, .bool true] 94))))
  obtain ⟨pa, pc, rfl, -, -⟩ := h1
  clear h2 h3 hr
  go_wp2_with fail
  go_ret
  exact ⟨_, rfl, HB.out.1, HI.out, HB.out.2⟩
theorem cell_on {w w' : World} {p : Addr} {v : Value} (hb : Below w.heap.size w w') (h : w.cell? p = some v) : w'.cell? p = some v := by
  rw [hb.cell (World.block_lt_of_cell? w p h)]; exact h
theorem cU_any (v : Value) (b : List Int) (most : Int) (M : Nat) (w : World) (hv : Ints .u8 w v b) (hb : Bt b) (hl : b.length ≤ 20000) (hM : w.cell? ⟨M, 0, none⟩ = some (.int .u64 most)) :
    Calls Tryz.prog 47 #[v, .pointer (some ⟨M, 0, none⟩)] w fun r w' => r = .returned (trip (uN most (getU b))) ∧ Below w.heap.size w w' := by
  have HU := Lib.hid (pgetU_any v b w hv hb (by omega))
  obtain ⟨a, cap, rfl, -, -⟩ := hv
  generalize getU b = rr at *
  obtain ⟨x, n, e⟩ := rr
  unfold trip at HU
  simp only at HU
  have HM := Lib.hid hM
  by_cases he : e = 0
  · subst he
    by_cases hm : most < x
    · go_enter Tryz.func47, Tryz.ntmps47
      go_wp2_with fail
      refine (HU.out).mono ?_; rintro r w1 ⟨rfl, h1⟩
      have HB := Lib.hid h1
      have hc := cell_on h1 HM.out
      clear h1
      go_wp2_with fail
      exact bodyPost_ret (v := .tuple #[.int .u64 0, .int .i64 0, .int .i64 2]) (by simp [results, Tryz.results47, go_sem]) rfl ⟨by unfold uN; rw [if_pos ⟨rfl, hm⟩]; rfl, HB.out⟩
    · go_enter Tryz.func47, Tryz.ntmps47
      go_wp2_with fail
      refine (HU.out).mono ?_; rintro r w1 ⟨rfl, h1⟩
      have HB := Lib.hid h1
      have hc := cell_on h1 HM.out
      clear h1
      go_wp2_with fail
      exact bodyPost_ret (v := .tuple #[.int .u64 x, .int .i64 n, .int .i64 0]) (by simp [results, Tryz.results47, go_sem]) rfl ⟨by unfold uN; rw [if_neg (fun h => absurd h.2 (Int.not_lt.2 hm))]; rfl, HB.out⟩
  · have h0 : ((e : Int) == 0) = false := by simp; omega
    go_enter Tryz.func47, Tryz.ntmps47
    go_wp2_with fail
    refine (HU.out).mono ?_; rintro r w1 ⟨rfl, h1⟩
    have HB := Lib.hid h1
    clear h1
    go_wp2_with fail
    exact bodyPost_ret (v := .tuple #[.int .u64 x, .int .i64 n, .int .i64 e]) (by simp [results, Tryz.results47, go_sem]) rfl ⟨by unfold uN; rw [if_neg (fun h => he h.1)]; rfl, HB.out⟩
set_option maxRecDepth 100000
open Go.RowKit
set_option linter.unusedVariables false
theorem bN_ok {most x : Int} {n : Nat} {b : List Int} (hU : getU b = (x, n, 0)) (h1 : ¬ max most 0 < x) (h2 : ¬ ((b.length - n : Nat) : Int) < x) : bN most b = ((b.take (n + x.toNat)).drop n, n + x.toNat, 0) := by
  unfold bN
  rw [hU]
  simp only [ne_eq, not_true, if_false]
  rw [if_neg h1, if_neg h2, List.drop_take, Nat.add_sub_cancel_left]
def ByteP (R : List Int × Nat × Nat) (w : World) (r : Ending) (w' : World) : Prop := (∃ v, r = .returned (.tuple #[v, .int .i64 (R.2.1 : Nat), .int .i64 (R.2.2 : Nat)]) ∧ Ints .u8 w' v R.1 ∧ Typed 5 w' v) ∧ Below w.heap.size w w'
theorem ints_nil {k : IntKind} {w : World} : Ints k w (.slice none 0 0) [] := ⟨none, 0, rfl, by simp, .inl rfl⟩
end Go.Proofs.YtdnbjaeeebodkaaGreat
