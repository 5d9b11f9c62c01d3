/- The program's All: a range over a function. -/
import Derived.Test.YtacogaeciodjeaaDoorFrmh
namespace Go.Proofs.YtacogaeciodjeaaDoor
set_option maxRecDepth 100000
open Go.RowKit Go.Shelf
set_option linter.unusedVariables false
set_option maxHeartbeats 1000000 in
theorem pframes_in (n : Nat) (v : Value) (w : World) (hv : ∃ a l c, v = .slice a l c) :
    CallsIn Fence.wide n Tryd.prog 20 #[v] w fun e w' => e = .returned (.func (.func 23) #[] #[.pointer (some ⟨w.heap.size, 0, none⟩)]) ∧ w' = w.alloc (.cells #[v] 22) := by
  obtain ⟨a, l, c, rfl⟩ := hv
  refine callsIn_of_wp Tryd.func20 rfl trivial ?_ rfl
  simp only [Tryd.ntmps20, List.size_toArray, List.length_cons, List.length_nil, Nat.reduceAdd, Nat.reduceSub, Array.replicate_succ, Array.replicate_zero, List.push_toArray, List.append_toArray, List.nil_append, List.cons_append]
  gi_wp2
  go_ret
  exact ⟨rfl, rfl⟩
theorem Bods.kept {w w' : World} {B : Nat} {v : Value} {L : List (List Int)} {row : Option Nat} (h : Bods w B v L) (hg : w.grownBy w' row) (hr : ∀ r, row = some r → ∃ o : Obj, w.heap[r]? = some o ∧ o.isCells = false) : Bods w' B v L := by
  have key : ∀ {E n : Nat} {u : Value} {xs : List Value}, w.ownsRow B E 1 u n xs → w'.ownsRow B E 1 u n xs := fun {E n u xs} hu => by
    refine hu.kept hg ?_
    cases hv : u.ownBlock with
    | none => exact .inl rfl
    | some g =>
      right
      intro he
      obtain ⟨cs, fr, e1⟩ := own_typed hu hv
      obtain ⟨o, ho, hc⟩ := hr g he.symm
      rw [e1] at ho
      cases ho
      cases hc
  obtain ⟨vs, h1, h2, h3⟩ := h
  exact ⟨vs, h1, key h2, fun j u hj => key (h3 j u hj)⟩
theorem cell_lt {w : World} {a : Addr} {v : Value} (h : w.cell? a = some v) : a.block < w.heap.size := by
  unfold World.cell? at h
  by_cases hl : a.block < w.heap.size
  · exact hl
  · rw [Array.getElem?_eq_none (by omega)] at h
    simp at h
/-- The record of a loop. -/
def recL (fn : FuncId) (tmps : Array Value) (ps : Array Tmp) (assign body : Code) (D : Nat) (st : LoopState) (pe : Option Code) : Loop := { state := st, pending := pe, fn, tmps, params := ps, assign, body, defers := D }
/-- How a round's body is left. -/
def RoundP (I : List (List Int) × Nat → World → Prop) (Ix : (List (List Int) × Nat) × Nat → World → Prop) (P : List (List Int)) (A : Nat) (R : List Int × Nat × Nat) (W : World) : Exit → Act → World → Prop
  | .normal, _, W' => R.2.2 = 0 ∧ KeepsOthers W W' ∧ I (P ++ [R.1], A + R.2.1) W'
  | .ret, _, W' => R.2.2 ≠ 0 ∧ KeepsOthers W W' ∧ Ix ((P, A), R.2.2) W'
  | _, _, _ => False
theorem RoundP.left {I : List (List Int) × Nat → World → Prop} {Ix : (List (List Int) × Nat) × Nat → World → Prop} {P : List (List Int)} {A : Nat} {R : List Int × Nat × Nat} {W W' : World} {x : Exit} {a : Act} (h : RoundP I Ix P A R W x a W') :
    (x = .normal ∧ R.2.2 = 0 ∧ KeepsOthers W W' ∧ I (P ++ [R.1], A + R.2.1) W') ∨ (x = .ret ∧ R.2.2 ≠ 0 ∧ KeepsOthers W W' ∧ Ix ((P, A), R.2.2) W') := by
  cases x
  all_goals first
    | exact .inl ⟨rfl, h⟩
    | exact .inr ⟨rfl, h⟩
    | exact h.elim
/-- A loop over the frames of b, whatever its body does with its own boxes. -/
theorem range_frames {n : Nat} (hn : 4 ≤ n) {g : Operand} {ps : Array Tmp} {assign body : Code} {Q : Exit → Act → World → Prop} {a : Act} {w : World} (Bn : Nat) (hg : a.eval g = .func (.func 23) #[] #[.pointer (some ⟨Bn, 0, none⟩)]) (hps : ps.size = 2)
    (wv : World) (p : Option Addr) (cap : Nat) (b : List Int) (hv : Ints .u8 wv (.slice p b.length cap) b) (hb : Byt b) (hl : b.length ≤ 3000) (hT : Fours wv) (hB0 : Below wv.heap.size wv w) (hBn : w.cell? ⟨Bn, 0, none⟩ = some (.slice p b.length cap))
    (I : List (List Int) × Nat → World → Prop) (Ix : (List (List Int) × Nat) × Nat → World → Prop) (hI : OwnFrom w.heap.size I) (hIx : OwnFrom w.heap.size Ix) (h0 : I ([], 0) w)
    (hIw : ∀ P A W, I (P, A) W → AllSt b P A ∧ Below wv.heap.size wv W) (a₁ : Value → Int → Act)
    (hassign : ∀ (l : Nat) (u : Value) (e : Int) (W : World) (K : Act → World → Prop), K (a₁ u e) W →
      assign.wpIn (Fence.wide.inRound l) (n - 1 - 1) Tryd.prog (Exit.then K (fun _ _ _ => False)) { tmps := (ps.zip #[u, .int .i64 e]).foldl (fun t (p, v) => t.setIfInBounds p v) a.tmps, defers := [] } W)
    (hbody : ∀ (l : Nat) (P : List (List Int)) (A : Nat) (W : World) (u : Value), I (P, A) W → A < b.length → BOwn W wv.heap.size u (getN (b.drop A)).1 →
      body.wpIn (Fence.wide.inRound l) (n - 1 - 1) Tryd.prog (RoundP I Ix P A (getN (b.drop A)) W) (a₁ u ((getN (b.drop A)).2.2 : Nat)) W)
    (hdone : ∀ (P : List (List Int)) (A : Nat) (W : World), allN b = (P, A, 0) → I (P, A) W → W.heap[w.heap.size]? = some (.deferred (some [])) → Q .normal { a with defers := { target := .collected w.heap.size, args := #[] } :: a.defers } W)
    (hstop : ∀ (P : List (List Int)) (A e : Nat) (W : World), allN b = (P, A, e) → Ix ((P, A), e) W → W.heap[w.heap.size]? = some (.deferred (some [])) → Code.ret.wpIn Fence.wide n Tryd.prog Q { a with defers := { target := .collected w.heap.size, args := #[] } :: a.defers } W) :
    (Code.rangeFunc g ps assign body).wpIn Fence.wide n Tryd.prog Q a w := by
  refine wpIn_rangeFunc fun fn _ => ?_
  obtain ⟨W1, hW1⟩ : ∃ W1, (w.alloc (.deferred (some []))).alloc (.loop (recL fn a.tmps ps assign body w.heap.size .ready none)) = W1 := ⟨_, rfl⟩
  have hs1 : W1.heap.size = w.heap.size + 1 + 1 := by rw [← hW1]; simp
  have hbw : Below w.heap.size w W1 := by rw [← hW1]; exact ((Below.refl _ w).alloc (Nat.le_refl _) _).alloc (by simp) _
  have hD1 : W1.heap[w.heap.size]? = some (.deferred (some [])) := by
    rw [← hW1]; exact (Below.heap_alloc _ _ _ (by simp)).trans (World.alloc_heap_new w _)
  have hL1 : W1.heap[w.heap.size + 1]? = some (.loop (recL fn a.tmps ps assign body w.heap.size .ready none)) := by
    rw [← hW1]; have := World.alloc_heap_new (w.alloc (.deferred (some []))) (.loop (recL fn a.tmps ps assign body w.heap.size .ready none)); rwa [World.size_alloc] at this
  have hI1 : I ([], 0) W1 := by rw [← hW1]; exact hI.alloc _ (hI.alloc _ h0)
  refine ⟨w.heap.size + 1, [{ target := .collected w.heap.size, args := #[] }], W1, { target := .fn (.func 23) #[.pointer (some ⟨Bn, 0, none⟩)], args := #[.func (.yield (w.heap.size + 1)) #[] #[]] }, W1, 23,
    #[.func (.yield (w.heap.size + 1)) #[] #[], .pointer (some ⟨Bn, 0, none⟩)], W1, ?_, ?_, fun _ _ => trivial, ?_, fun _ => by omega, ?_⟩
  · rw [← hW1]; exact run_enterLoop_outer _ _ _ _ _
  · simp only [resolve, hg]
    simp [go_sem]
  · have he := enters_of (P := Tryd.prog) Tryd.func23 (by kernel_rfl) rfl
    simp [invoke, go_sem]
  · refine (frames1_in (n - 1) (by omega) (w.heap.size + 1) Bn p cap b wv hv hb hl hT
      (fun P A W => I (P, A) W ∧ W.heap[w.heap.size + 1]? = some (.loop (recL fn a.tmps ps assign body w.heap.size .ready none)) ∧ W.heap[w.heap.size]? = some (.deferred (some [])))
      (fun P A e W => Ix ((P, A), e) W ∧ W.heap[w.heap.size + 1]? = some (.loop (recL fn a.tmps ps assign body w.heap.size .done (some .ret))) ∧ W.heap[w.heap.size]? = some (.deferred (some [])))
      (fun P A W h => hIw P A W h.1)
      (fun P A W W' h hb => ⟨hI _ W W' none h.1 (grown_below hb none) (fun r e => by cases e), (hb.block _ (Array.getElem?_eq_some_iff.1 h.2.1).1).trans h.2.1, (hb.block _ (Array.getElem?_eq_some_iff.1 h.2.2).1).trans h.2.2⟩)
      ?_ W1 ((hbw.cell (p := ⟨Bn, 0, none⟩) (cell_lt hBn)).trans hBn) ⟨hI1, hL1, hD1⟩).mono ?_
    · rintro P A W u ⟨hi, hl2, hd⟩ hlt hu
      have hlw := (Array.getElem?_eq_some_iff.1 hl2).1
      refine ⟨fn, _, assign, body, run_yield hl2 (by show 2 = ps.size; omega), roundIn_of_wpIn trivial (hassign _ u _ W _ ⟨_, run_beginRound hl2 rfl, ?_⟩)⟩
      obtain ⟨W2, hW2⟩ : ∃ W2, W.putObj (w.heap.size + 1) (.loop (recL fn a.tmps ps assign body w.heap.size .busy none)) = W2 := ⟨_, rfl⟩
      have hL2 : W2.heap[w.heap.size + 1]? = some (.loop (recL fn a.tmps ps assign body w.heap.size .busy none)) := by rw [← hW2]; exact World.putObj_heap_same hlw
      have hD2 : W2.heap[w.heap.size]? = some (.deferred (some [])) := by rw [← hW2]; exact (World.putObj_heap_other (by omega)).trans hd
      have hI2 : I (P, A) W2 := by rw [← hW2]; exact hI.putObj _ hi (by omega) hl2 rfl
      have hu2 : BOwn W2 wv.heap.size u (getN (b.drop A)).1 := by rw [← hW2]; exact ownsRow_putObj hu _ hl2 rfl
      show body.wpIn _ _ _ _ _ (W.putObj (w.heap.size + 1) (.loop (recL fn a.tmps ps assign body w.heap.size .busy none)))
      rw [hW2]
      refine wpIn_mono (hbody _ P A W2 u hI2 hlt hu2) ?_
      intro x a3 W3 hx
      rcases hx.left with ⟨rfl, he, hk, hi3⟩ | ⟨rfl, he, hk, hi3⟩
      · have hL3 := hk.same _ _ hL2 rfl
        have hD3 := hk.same _ _ hD2 rfl
        exact ⟨_, _, run_endRound none hL3, .inl ⟨he, rfl, hI.putObj _ hi3 (by omega) hL3 rfl, World.putObj_heap_same (Array.getElem?_eq_some_iff.1 hL3).1, (World.putObj_heap_other (by omega)).trans hD3⟩⟩
      · have hL3 := hk.same _ _ hL2 rfl
        have hD3 := hk.same _ _ hD2 rfl
        exact ⟨_, _, run_endRound (some .ret) hL3, .inr ⟨he, rfl, hIx.putObj _ hi3 (by omega) hL3 rfl, World.putObj_heap_same (Array.getElem?_eq_some_iff.1 hL3).1, (World.putObj_heap_other (by omega)).trans hD3⟩⟩
    · rintro e W3 ⟨⟨v, rfl⟩, ⟨P, A, hall, hi, hl3, hd3⟩ | ⟨P, A, k, hall, hk, hi, hl3, hd3⟩⟩
      · exact ⟨none, _, run_endLoop hl3 (by simp [recL]), hdone P A _ hall (hI.putObj _ hi (by omega) hl3 rfl) ((World.putObj_heap_other (by omega)).trans hd3)⟩
      · exact ⟨some .ret, _, run_endLoop hl3 (by simp [recL]), hstop P A k _ hall (hIx.putObj _ hi (by omega) hl3 rfl) ((World.putObj_heap_other (by omega)).trans hd3)⟩
theorem boxed_kept {W W' : World} {row : Option Nat} {B : Nat} {t : TypeId} {v : Value} (h : Boxed W B t v) (hg : W.grownBy W' row) (hr : ∀ r, row = some r → ∃ o : Obj, W.heap[r]? = some o ∧ o.isCells = false) : Boxed W' B t v :=
  h.kept hg (fun e => by
    obtain ⟨o, ho, hc⟩ := hr B e.symm
    rw [show W.heap[B]? = _ from h] at ho
    cases ho
    cases hc)
theorem Bods.other {W : World} {B C : Nat} {v u : Value} {L : List (List Int)} {t : TypeId} (h : Bods W B v L) (hb : Boxed W C t u) (ht : t ≠ 22 ∧ t ≠ 5) (u' : Value) : Bods (W.setCell ⟨C, 0, none⟩ u') B v L := by
  have key : ∀ {E n : Nat} {x : Value} {xs : List Value}, t ≠ E → W.ownsRow B E 1 x n xs → (W.setCell ⟨C, 0, none⟩ u').ownsRow B E 1 x n xs := fun {E n x xs} hE hu => by
    refine hu.kept (grownBy_setCell' W C u') ?_
    exact .inr (fun e => hb.not_row hE hu e.symm)
  obtain ⟨vs, h1, h2, h3⟩ := h
  exact ⟨vs, h1, key ht.1 h2, fun j x hj => key ht.2 (h3 j x hj)⟩
/-- Between two rounds. -/
def AllI (w : World) (b : List Int) (s : List (List Int) × Nat) (W : World) : Prop :=
  (Boxed W w.heap.size 34 (.slice none 0 0) ∧ Boxed W (w.heap.size + 1) 3 (.int .i64 0) ∧ Boxed W (w.heap.size + 1 + 1) 25 (.int .i64 0)) ∧
    (∃ v, Boxed W (w.heap.size + 1 + 1 + 1) 34 v ∧ Bods W w.heap.size v s.1) ∧ Boxed W (w.heap.size + 1 + 1 + 1 + 1) 3 (.int .i64 (s.2 : Nat)) ∧ Below w.heap.size w W ∧ AllSt b s.1 s.2
/-- Behind a round that has returned. -/
def AllX (w : World) (s : (List (List Int) × Nat) × Nat) (W : World) : Prop :=
  (∃ v, Boxed W w.heap.size 34 v ∧ Bods W w.heap.size v s.1.1) ∧ Boxed W (w.heap.size + 1) 3 (.int .i64 (s.1.2 : Nat)) ∧ Boxed W (w.heap.size + 1 + 1) 25 (.int .i64 (s.2 : Nat)) ∧ Below w.heap.size w W
theorem allI_own (w : World) (b : List Int) {B : Nat} (hB : w.heap.size ≤ B) : OwnFrom B (AllI w b) := by
  rintro s W W' row ⟨⟨h1, h2, h3⟩, ⟨v, h4, h5⟩, h6, h7, h8⟩ hg hr
  have hr' := fun r e => (hr r e).2
  exact ⟨⟨boxed_kept h1 hg hr', boxed_kept h2 hg hr', boxed_kept h3 hg hr'⟩, ⟨v, boxed_kept h4 hg hr', h5.kept hg hr'⟩, boxed_kept h6 hg hr', h7.grown hg h7.size (fun k e => Nat.le_trans hB (hr k e).1), h8⟩
theorem allX_own (w : World) {B : Nat} (hB : w.heap.size ≤ B) : OwnFrom B (AllX w) := by
  rintro s W W' row ⟨⟨v, h4, h5⟩, h2, h3, h7⟩ hg hr
  have hr' := fun r e => (hr r e).2
  exact ⟨⟨v, boxed_kept h4 hg hr', h5.kept hg hr'⟩, boxed_kept h2 hg hr', boxed_kept h3 hg hr', h7.grown hg h7.size (fun k e => Nat.le_trans hB (hr k e).1)⟩
/-- What holds while a return statement stores its results, in whatever order. -/
abbrev St (w W0 : World) (v : Value) (P : List (List Int)) (x1 x2 x3 : Value) (W : World) : Prop :=
  Boxed W w.heap.size 34 x1 ∧
    Boxed W (w.heap.size + 1) 3 x2 ∧
    Boxed W (w.heap.size + 1 + 1) 25 x3 ∧
    Bods W w.heap.size v P ∧
    KeepsOthers W0 W ∧
    Below w.heap.size w W
theorem St.b1 {w W0 : World} {v : Value} {P : List (List Int)} {x1 x2 x3 : Value} {W : World} (h : St w W0 v P x1 x2 x3 W) : Boxed W w.heap.size 34 x1 := h.1
theorem St.b2 {w W0 : World} {v : Value} {P : List (List Int)} {x1 x2 x3 : Value} {W : World} (h : St w W0 v P x1 x2 x3 W) : Boxed W (w.heap.size + 1) 3 x2 := h.2.1
theorem St.b3 {w W0 : World} {v : Value} {P : List (List Int)} {x1 x2 x3 : Value} {W : World} (h : St w W0 v P x1 x2 x3 W) : Boxed W (w.heap.size + 1 + 1) 25 x3 := h.2.2.1
theorem St.rows {w W0 : World} {v : Value} {P : List (List Int)} {x1 x2 x3 : Value} {W : World} (h : St w W0 v P x1 x2 x3 W) : Bods W w.heap.size v P := h.2.2.2.1
theorem St.keeps {w W0 : World} {v : Value} {P : List (List Int)} {x1 x2 x3 : Value} {W : World} (h : St w W0 v P x1 x2 x3 W) : KeepsOthers W0 W := h.2.2.2.2.1
theorem St.below {w W0 : World} {v : Value} {P : List (List Int)} {x1 x2 x3 : Value} {W : World} (h : St w W0 v P x1 x2 x3 W) : Below w.heap.size w W := h.2.2.2.2.2
theorem St.set1 {w W0 W : World} {v x1 x2 x3 : Value} {P : List (List Int)} (h : St w W0 v P x1 x2 x3 W) (y : Value) : St w W0 v P y x2 x3 (W.setCell ⟨w.heap.size, 0, none⟩ y) :=
  ⟨h.b1.set y, h.b2.other (by omega) y, h.b3.other (by omega) y, h.rows.other h.b1 (by decide) y, h.keeps.trans (KeepsOthers.setCell _ _ _), h.below.setCell (Nat.le_refl _) y⟩
theorem St.set2 {w W0 W : World} {v x1 x2 x3 : Value} {P : List (List Int)} (h : St w W0 v P x1 x2 x3 W) (y : Value) : St w W0 v P x1 y x3 (W.setCell ⟨w.heap.size + 1, 0, none⟩ y) :=
  ⟨h.b1.other (by omega) y, h.b2.set y, h.b3.other (by omega) y, h.rows.other h.b2 (by decide) y, h.keeps.trans (KeepsOthers.setCell _ _ _), h.below.setCell (by simp) y⟩
theorem St.set3 {w W0 W : World} {v x1 x2 x3 : Value} {P : List (List Int)} (h : St w W0 v P x1 x2 x3 W) (y : Value) : St w W0 v P x1 x2 y (W.setCell ⟨w.heap.size + 1 + 1, 0, none⟩ y) :=
  ⟨h.b1.other (by omega) y, h.b2.other (by omega) y, h.b3.set y, h.rows.other h.b3 (by decide) y, h.keeps.trans (KeepsOthers.setCell _ _ _), h.below.setCell (by simp; omega) y⟩
theorem St.drew {w W0 W : World} {v x1 x2 x3 : Value} {P : List (List Int)} (h : St w W0 v P x1 x2 x3 W) : St w W0 v P x1 x2 x3 W.drew :=
  ⟨h.b1, h.b2, h.b3, h.rows.below (Below.refl _ _).drew, h.keeps.trans (KeepsOthers.drew _), h.below.drew⟩
theorem St.fin {w W0 W : World} {v : Value} {b : List Int} {P : List (List Int)} {A : Nat} {R : List Int × Nat × Nat} {a : Act} (h : St w W0 v P v (.int .i64 (A : Nat)) (.int .i64 (R.2.2 : Nat)) W) (he : R.2.2 ≠ 0) : RoundP (AllI w b) (AllX w) P A R W0 .ret a W :=
  ⟨he, h.keeps, ⟨v, h.b1, h.rows⟩, h.b2, h.b3, h.below⟩
/-- What holds between the stores of a round that goes on. -/
abbrev Go1 (w W0 : World) (y z : Value) (v : Value) (P : List (List Int)) (W : World) : Prop :=
  Boxed W w.heap.size 34 (.slice none 0 0) ∧
    Boxed W (w.heap.size + 1) 3 (.int .i64 0) ∧
    Boxed W (w.heap.size + 1 + 1) 25 (.int .i64 0) ∧
    Boxed W (w.heap.size + 1 + 1 + 1) 34 y ∧
    Boxed W (w.heap.size + 1 + 1 + 1 + 1) 3 z ∧
    Bods W w.heap.size v P ∧
    KeepsOthers W0 W ∧
    Below w.heap.size w W
theorem Go1.b1 {w W0 : World} {y z : Value} {v : Value} {P : List (List Int)} {W : World} (h : Go1 w W0 y z v P W) : Boxed W w.heap.size 34 (.slice none 0 0) := h.1
theorem Go1.b2 {w W0 : World} {y z : Value} {v : Value} {P : List (List Int)} {W : World} (h : Go1 w W0 y z v P W) : Boxed W (w.heap.size + 1) 3 (.int .i64 0) := h.2.1
theorem Go1.b3 {w W0 : World} {y z : Value} {v : Value} {P : List (List Int)} {W : World} (h : Go1 w W0 y z v P W) : Boxed W (w.heap.size + 1 + 1) 25 (.int .i64 0) := h.2.2.1
theorem Go1.b4 {w W0 : World} {y z : Value} {v : Value} {P : List (List Int)} {W : World} (h : Go1 w W0 y z v P W) : Boxed W (w.heap.size + 1 + 1 + 1) 34 y := h.2.2.2.1
theorem Go1.b5 {w W0 : World} {y z : Value} {v : Value} {P : List (List Int)} {W : World} (h : Go1 w W0 y z v P W) : Boxed W (w.heap.size + 1 + 1 + 1 + 1) 3 z := h.2.2.2.2.1
theorem Go1.rows {w W0 : World} {y z : Value} {v : Value} {P : List (List Int)} {W : World} (h : Go1 w W0 y z v P W) : Bods W w.heap.size v P := h.2.2.2.2.2.1
theorem Go1.keeps {w W0 : World} {y z : Value} {v : Value} {P : List (List Int)} {W : World} (h : Go1 w W0 y z v P W) : KeepsOthers W0 W := h.2.2.2.2.2.2.1
theorem Go1.below {w W0 : World} {y z : Value} {v : Value} {P : List (List Int)} {W : World} (h : Go1 w W0 y z v P W) : Below w.heap.size w W := h.2.2.2.2.2.2.2
theorem Go1.grown {w W0 W w1 : World} {y z v v' u : Value} {P : List (List Int)} {x : List Int} {ob : Obj} {vs : List Value} (h : Go1 w W0 y z v P W) (hl : vs.length = P.length) (h2 : W.ownsRow w.heap.size 22 1 v P.length vs) (h3 : ∀ j u, vs[j]? = some u → BOwn W w.heap.size u (P.getD j [])) (hu : BOwn W w.heap.size u x)
    (hown : w1.ownsRow w.heap.size 22 1 v' (P.length + 1) (vs ++ [u])) (hg : (W.alloc ob).grownBy w1 v.ownBlock) : Go1 w W0 y z v' (P ++ [x]) w1 := by
  have hrow := ownsRow_alloc2 h2 ob
  refine ⟨(h.b1.alloc ob).kept hg (h.b1.not_row (by decide) h2), (h.b2.alloc ob).kept hg (h.b2.not_row (by decide) h2), (h.b3.alloc ob).kept hg (h.b3.not_row (by decide) h2), (h.b4.alloc ob).kept hg (h.b4.not_row (by decide) h2), (h.b5.alloc ob).kept hg (h.b5.not_row (by decide) h2),
    Bods.snoc vs hl hrow (fun j u hj => ownsRow_alloc2 (h3 j u hj) ob) (ownsRow_alloc2 hu ob) hown hg, ?_, (h.below.alloc h.below.size ob).grown hg (by have := h.below.size; simp; omega) (fun k hk => (h2.lt k hk).1)⟩
  refine h.keeps.trans ((KeepsOthers.alloc W ob).trans (KeepsOthers.of_grownBy hg fun j o ej hj => ?_))
  obtain ⟨cs, fr, e⟩ := own_typed hrow ej
  rw [e] at hj
  cases hj
  rfl
theorem Go1.set4 {w W0 W : World} {y z v : Value} {P : List (List Int)} (h : Go1 w W0 y z v P W) (y' : Value) : Go1 w W0 y' z v P (W.setCell ⟨w.heap.size + 1 + 1 + 1, 0, none⟩ y') :=
  ⟨h.b1.other (by omega) y', h.b2.other (by omega) y', h.b3.other (by omega) y', h.b4.set y', h.b5.other (by omega) y', h.rows.other h.b4 (by decide) y', h.keeps.trans (KeepsOthers.setCell _ _ _), h.below.setCell (by simp; omega) y'⟩
theorem Go1.set5 {w W0 W : World} {y z v : Value} {P : List (List Int)} (h : Go1 w W0 y z v P W) (z' : Value) : Go1 w W0 y z' v P (W.setCell ⟨w.heap.size + 1 + 1 + 1 + 1, 0, none⟩ z') :=
  ⟨h.b1.other (by omega) z', h.b2.other (by omega) z', h.b3.other (by omega) z', h.b4.other (by omega) z', h.b5.set z', h.rows.other h.b5 (by decide) z', h.keeps.trans (KeepsOthers.setCell _ _ _), h.below.setCell (by simp; omega) z'⟩
theorem Go1.drew {w W0 W : World} {y z v : Value} {P : List (List Int)} (h : Go1 w W0 y z v P W) : Go1 w W0 y z v P W.drew :=
  ⟨h.b1, h.b2, h.b3, h.b4, h.b5, h.rows.below (Below.refl _ _).drew, h.keeps.trans (KeepsOthers.drew _), h.below.drew⟩
theorem Go1.fin {w W0 W : World} {v z : Value} {b : List Int} {P : List (List Int)} {A : Nat} {R : List Int × Nat × Nat} {a : Act} (h : Go1 w W0 v z v (P ++ [R.1]) W) (hz : z = .int .i64 ((A + R.2.1 : Nat) : Int)) (he : R.2.2 = 0) (hs : AllSt b (P ++ [R.1]) (A + R.2.1)) : RoundP (AllI w b) (AllX w) P A R W0 .normal a W :=
  ⟨he, h.keeps, ⟨h.b1, h.b2, h.b3⟩, ⟨v, h.b4, h.rows⟩, by subst hz; exact h.b5, h.below, hs⟩
set_option maxHeartbeats 4000000 in
theorem pall_any (v : Value) (b : List Int) (w : World) (hv : Ints .u8 w v b) (hb : Byt b) (hl : b.length ≤ 3000) (hT : Fours w) :
    Calls Tryd.prog 12 #[v] w (AllP w (allN b)) := by
  have HV := Lib.hid hv
  obtain ⟨a, cap, rfl, -, -⟩ := hv
  obtain ⟨i0, hi, hz0, hz1, hz2⟩ := info_parts Tryd.infoSl
  refine (callsIn_wide (n := 5)).1 ?_
  refine callsIn_of_wp_marks Tryd.func12 rfl trivial ?_ rfl
  simp only [Tryd.ntmps12, List.size_toArray, List.length_cons, List.length_nil, Nat.reduceAdd, Nat.reduceSub, Array.replicate_succ, Array.replicate_zero, List.push_toArray, List.append_toArray, List.nil_append, List.cons_append]
  gi_wp2_with (refine ⟨trivial, ?_⟩; gi_at_call 20; refine (pframes_in _ _ _ ⟨_, _, _, rfl⟩).mono ?_; rintro e w' ⟨rfl, rfl⟩)
  have b1 := Boxed.new w 34 (.slice none 0 0)
  have b2 := Boxed.new (w.alloc (.cells #[.slice none 0 0] 34)) 3 (.int .i64 0)
  have b3 := Boxed.new ((w.alloc (.cells #[.slice none 0 0] 34)).alloc (.cells #[.int .i64 0] 3)) 25 (.int .i64 0)
  have b4 := Boxed.new (((w.alloc (.cells #[.slice none 0 0] 34)).alloc (.cells #[.int .i64 0] 3)).alloc (.cells #[.int .i64 0] 25)) 34 (.slice none 0 0)
  have b5 := Boxed.new ((((w.alloc (.cells #[.slice none 0 0] 34)).alloc (.cells #[.int .i64 0] 3)).alloc (.cells #[.int .i64 0] 25)).alloc (.cells #[.slice none 0 0] 34)) 3 (.int .i64 0)
  have b6 := Boxed.new (((((w.alloc (.cells #[.slice none 0 0] 34)).alloc (.cells #[.int .i64 0] 3)).alloc (.cells #[.int .i64 0] 25)).alloc (.cells #[.slice none 0 0] 34)).alloc (.cells #[.int .i64 0] 3)) 22 (.slice a b.length cap)
  simp only [World.size_alloc] at b2 b3 b4 b5 b6
  have b1 := ((((b1.alloc (.cells #[.int .i64 0] 3)).alloc (.cells #[.int .i64 0] 25)).alloc (.cells #[.slice none 0 0] 34)).alloc (.cells #[.int .i64 0] 3)).alloc (.cells #[.slice a b.length cap] 22)
  have b2 := (((b2.alloc (.cells #[.int .i64 0] 25)).alloc (.cells #[.slice none 0 0] 34)).alloc (.cells #[.int .i64 0] 3)).alloc (.cells #[.slice a b.length cap] 22)
  have b3 := ((b3.alloc (.cells #[.slice none 0 0] 34)).alloc (.cells #[.int .i64 0] 3)).alloc (.cells #[.slice a b.length cap] 22)
  have b4 := (b4.alloc (.cells #[.int .i64 0] 3)).alloc (.cells #[.slice a b.length cap] 22)
  have b5 := b5.alloc (.cells #[.slice a b.length cap] 22)
  have hB : Below w.heap.size w ((((((w.alloc (.cells #[.slice none 0 0] 34)).alloc (.cells #[.int .i64 0] 3)).alloc (.cells #[.int .i64 0] 25)).alloc (.cells #[.slice none 0 0] 34)).alloc (.cells #[.int .i64 0] 3)).alloc (.cells #[.slice a b.length cap] 22)) :=
    ((((((Below.refl _ w).alloc (Nat.le_refl _) _).alloc (by simp) _).alloc (by simp; omega) _).alloc (by simp; omega) _).alloc (by simp; omega) _).alloc (by simp; omega) _
  generalize ((((((w.alloc (.cells #[.slice none 0 0] 34)).alloc (.cells #[.int .i64 0] 3)).alloc (.cells #[.int .i64 0] 25)).alloc (.cells #[.slice none 0 0] 34)).alloc (.cells #[.int .i64 0] 3)).alloc (.cells #[.slice a b.length cap] 22)) = W0 at *
  have hIW : AllI w b ([], 0) W0 := ⟨⟨b1, b2, b3⟩, ⟨_, b4, Bods.nil _ _⟩, b5, hB, AllSt.start b⟩
  refine range_frames (n := 5) (by omega) (w.heap.size + 1 + 1 + 1 + 1 + 1) rfl rfl w a cap b HV.out hb hl hT hB b6.cell (AllI w b) (AllX w) (allI_own w b hB.size) (allX_own w hB.size) hIW (fun P A W h => ⟨h.2.2.2.2, h.2.2.2.1⟩)
    (fun u e => { tmps := #[.slice a b.length cap, undef, .pointer (some ⟨w.heap.size, 0, none⟩), .pointer (some ⟨w.heap.size + 1, 0, none⟩), .pointer (some ⟨w.heap.size + 1 + 1, 0, none⟩), .pointer (some ⟨w.heap.size + 1 + 1 + 1, 0, none⟩), .pointer (some ⟨w.heap.size + 1 + 1 + 1 + 1, 0, none⟩), u, .int .i64 e, .slice a b.length cap, .func (.func 23) #[] #[.pointer (some ⟨w.heap.size + 1 + 1 + 1 + 1 + 1, 0, none⟩)], u, .int .i64 e, undef, undef, undef, undef, undef, undef, undef, undef, undef, undef, undef, undef, undef, undef, undef, undef], defers := [] }) ?assign ?body ?done ?stop
  case assign =>
    intro l u e W K hK
    have hsem := @Oper.semAt_some
    gi_wp2
    exact hK
  case body =>
    have hsem := @Oper.semAt_some
    rintro l P A W u ⟨⟨b1, b2, b3⟩, ⟨v, b4, h5⟩, b6, h7, h8⟩ hlt hu
    have hfit := getN_fit (byt_drop hb A)
    have hN := fun h => h8.next hb hlt h
    have hPA := h8.2.1
    have hA := h8.1
    rw [List.length_drop] at hfit
    generalize getN (b.drop A) = R at *
    obtain ⟨x, k, e⟩ := R
    simp only at hfit hN hu ⊢
    have f1 := b1.frozen
    have f2 := b2.frozen
    have f3 := b3.frozen
    have k1 := b1.cell
    have k2 := b2.cell
    have k3 := b3.cell
    have c4 := b4.cell
    have c6 := b6.cell
    have f4 := b4.frozen
    have f6 := b6.frozen
    obtain ⟨va, vc, rfl⟩ := h5.slice
    obtain ⟨ua, uc, rfl⟩ := own_slice hu
    have hmix : Tryd.prog.follows .mixedOrders = true := by kernel_rfl
    by_cases he : e = 0
    · subst he
      have hfk := hfit.1 rfl
      have hk8 : k = 8 + x.length := hfk.2.1
      have hkl : k ≤ b.length - A := hfk.1
      have hx6 : x.length ≤ 60000 := hfk.2.2
      have HN := Lib.hid (hN rfl)
      have HK8 := Lib.hid hk8
      have hx3 : x.length ≤ 3000 := by omega
      have HZ := Lib.hid (fun w' => psize_any (x.length : Int) w')
      rw [show sizeN (x.length : Int) = (x.length : Int) + 8 by unfold sizeN; rw [if_neg (by omega)]] at HZ
      have hG := Lib.hid (show Go1 w W (.slice va P.length vc) (.int .i64 (A : Nat)) (.slice va P.length vc) P W from ⟨b1, b2, b3, b4, b6, h5, KeepsOthers.refl _, h7⟩)
      obtain ⟨vs, hq1, hq2, hq3⟩ := h5
      have hsz := h7.size
      have HU := Lib.hid (And.intro hq1 (And.intro hq2 (And.intro hq3 hu)))
      have hwr : IntKind.i64.wrap ((A : Int) + ((x.length : Int) + 8)) = (A : Int) + ((x.length : Int) + 8) := IntWalk.i64_in _ (by omega)
      have hA8 : (A : Int) + ((x.length : Int) + 8) = ((A + k : Nat) : Int) := by omega
      have HA8 := Lib.hid hA8
      clear hfit hN hfk hk8 hkl hA8 hq1 hq2 hq3 hu b1 b2 b3 b4 b6 h7 h8 f1 f2 f3 k1 k2 k3
      gi_wp2_with (gi_at_builtin; refine wpListIn_append_own _ rfl _ _ 34 rfl w.heap.size 22 i0 (.slice none 0 0) 1 24 Tryd.underlying34 hi hz0 hz1 hz2 rfl (by decide) _ _ _ rfl (ownsRow_alloc2 HU.out.2.1 _) ⟨W.heap.size, 0, none⟩ 1 1 [.slice ua x.length uc] rfl rfl (cell_one_new _ _ _) (by simp [Value.oneCell']) (by unfold maxLen; omega) (by omega) (by simp; omega) ?_; intro v' w1 hown' hgrow _; have hG1 := Lib.hid (hG.out.grown HU.out.1 HU.out.2.1 HU.out.2.2.1 HU.out.2.2.2 hown' hgrow); obtain ⟨g', cap', rfl⟩ := ownsRow_succ hown'; have d4 := hG1.out.b4.cell; have d4f := hG1.out.b4.frozen; clear hown' hgrow)
      have hG2 := Lib.hid (hG1.out.set4 (.slice (some ⟨g', 0, none⟩) (P.length + 1) cap'))
      generalize w1.setCell ⟨w.heap.size + 1 + 1 + 1, 0, none⟩ (.slice (some ⟨g', 0, none⟩) (P.length + 1) cap') = W2 at *
      have k5 := hG2.out.b5.cell
      have f5 := hG2.out.b5.frozen
      clear hG1 hG HU d4 d4f
      gi_region_with_o (refine ⟨trivial, ?_⟩; gi_at_call 7; refine (CallsIn.inRound l (callsIn_wide.2 (HZ.out _))).mono ?_; rintro e w' ⟨rfl, rfl⟩)
      all_goals gi_wp2
      all_goals (refine Go1.fin (hG2.out.set5 _).drew ?_ rfl HN.out)
      all_goals (rw [HA8.out])
    · have he' : ((e : Int) != 0) = true := by simp; omega
      have hS := Lib.hid (show St w W (.slice va P.length vc) P (.slice none 0 0) (.int .i64 0) (.int .i64 0) W from ⟨b1, b2, b3, h5, KeepsOthers.refl _, h7⟩)
      clear hfit hN
      gi_wp2
      gi_region
      all_goals gi_wp2
      all_goals first
        | exact St.fin (((hS.out.set1 _).set2 _).set3 _).drew he
        | exact St.fin (((hS.out.set1 _).set3 _).set2 _).drew he
        | exact St.fin (((hS.out.set2 _).set1 _).set3 _).drew he
        | exact St.fin (((hS.out.set2 _).set3 _).set1 _).drew he
        | exact St.fin (((hS.out.set3 _).set1 _).set2 _).drew he
        | exact St.fin (((hS.out.set3 _).set2 _).set1 _).drew he
  case done =>
    rintro P A W hall ⟨⟨b1, b2, b3⟩, ⟨v, b4, h5⟩, b6, h7, h8⟩ hD
    have f1 := b1.frozen
    have f2 := b2.frozen
    have f3 := b3.frozen
    have k1 := b1.cell
    have k2 := b2.cell
    have k3 := b3.cell
    have c4 := b4.cell
    have c6 := b6.cell
    obtain ⟨va, vc, rfl⟩ := h5.slice
    gi_wp2
    gi_region
    have e1 := (((b1.set (.slice va P.length vc)).other (B' := w.heap.size + 1) (by omega) (.int .i64 (A : Nat))).other (B' := w.heap.size + 1 + 1) (by omega) (.int .i64 0))
    have e2 := ((b2.other (B' := w.heap.size) (by omega) (.slice va P.length vc)).set (.int .i64 (A : Nat))).other (B' := w.heap.size + 1 + 1) (by omega) (.int .i64 0)
    have e3 := ((b3.other (B' := w.heap.size) (by omega) (.slice va P.length vc)).other (B' := w.heap.size + 1) (by omega) (.int .i64 (A : Nat))).set (.int .i64 0)
    have h5' := ((h5.other b1 (by decide) (.slice va P.length vc)).other (b2.other (B' := w.heap.size) (by omega) (.slice va P.length vc)) (by decide) (.int .i64 (A : Nat))).other ((b3.other (B' := w.heap.size) (by omega) (.slice va P.length vc)).other (B' := w.heap.size + 1) (by omega) (.int .i64 (A : Nat))) (by decide) (.int .i64 0)
    have hk := (((KeepsOthers.setCell W ⟨w.heap.size, 0, none⟩ (.slice va P.length vc)).trans (KeepsOthers.setCell _ ⟨w.heap.size + 1, 0, none⟩ (.int .i64 (A : Nat)))).trans (KeepsOthers.setCell _ ⟨w.heap.size + 1 + 1, 0, none⟩ (.int .i64 0)))
    have hD3 := hk.same _ _ hD rfl
    have h73 := ((h7.setCell (p := ⟨w.heap.size, 0, none⟩) (Nat.le_refl _) (.slice va P.length vc)).setCell (p := ⟨w.heap.size + 1, 0, none⟩) (by simp) (.int .i64 (A : Nat))).setCell (p := ⟨w.heap.size + 1 + 1, 0, none⟩) (by simp; omega) (.int .i64 0)
    generalize ((W.setCell ⟨w.heap.size, 0, none⟩ (.slice va P.length vc)).setCell ⟨w.heap.size + 1, 0, none⟩ (.int .i64 (A : Nat))).setCell ⟨w.heap.size + 1 + 1, 0, none⟩ (.int .i64 0) = W3 at *
    gi_wp2
    have hD4 : W3.drew.heap[W0.heap.size]? = some (.deferred (some [])) := hD3
    refine ⟨by simp, .inl ⟨_, _, rfl, run_takeDeferred hD4, ?_⟩⟩
    have hg := grownBy_putObj' W3.drew W0.heap.size (.deferred none)
    have hr : ∀ r, some W0.heap.size = some r → ∃ o : Obj, W3.drew.heap[r]? = some o ∧ o.isCells = false := fun r e => by cases e; exact ⟨_, hD4, rfl⟩
    have c1 := (boxed_kept (show Boxed W3.drew _ _ _ from e1) hg hr).cell
    have c2 := (boxed_kept (show Boxed W3.drew _ _ _ from e2) hg hr).cell
    have c3 := (boxed_kept (show Boxed W3.drew _ _ _ from e3) hg hr).cell
    refine ⟨.tuple #[.slice va P.length vc, .int .i64 A, .int .i64 0], ?_, ?_⟩
    · simp [results, Tryd.results12, go_sem, c1, c2, c3]
    · rw [hall]
      exact ⟨⟨_, rfl, (h5'.below (Below.refl _ _).drew).kept hg hr⟩, (h73.drew).grown hg h73.drew.size (fun k e => by cases e; exact hB.size)⟩
  case stop =>
    rintro P A e W hall ⟨⟨v, b1, h5⟩, b2, b3, h7⟩ hD
    gi_wp2
    refine ⟨by simp, .inl ⟨_, _, rfl, run_takeDeferred hD, ?_⟩⟩
    have hg := grownBy_putObj' W W0.heap.size (.deferred none)
    have hr : ∀ r, some W0.heap.size = some r → ∃ o : Obj, W.heap[r]? = some o ∧ o.isCells = false := fun r e => by cases e; exact ⟨_, hD, rfl⟩
    have c1 := (boxed_kept b1 hg hr).cell
    have c2 := (boxed_kept b2 hg hr).cell
    have c3 := (boxed_kept b3 hg hr).cell
    refine ⟨.tuple #[v, .int .i64 A, .int .i64 e], ?_, ?_⟩
    · simp [results, Tryd.results12, go_sem, c1, c2, c3]
    · exact ⟨⟨_, rfl, h5.kept hg hr⟩, h7.grown hg h7.size (fun k e => by cases e; exact hB.size)⟩
end Go.Proofs.YtacogaeciodjeaaDoor
