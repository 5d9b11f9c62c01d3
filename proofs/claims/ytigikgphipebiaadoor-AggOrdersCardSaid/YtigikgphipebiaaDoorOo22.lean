/- Contracts that the law leans on, pruned and merged: Exo Exq Exs Ext Exy Exjo Aggf Aggh. -/
import Derived.Deep.RegionLaw
import Derived.Deep.RegionHeld3
import Derived.Deep.RegionWith
import Derived.Deep.DrawnRows
import Derived.Deep.DeepCutAuto
import Derived.Test.YtigikgphipebiaaDoorOo11
import Derived.Test.YtigikgphipebiaaDoorOo16
import Derived.Test.YtigikgphipebiaaDoorOo17
import Derived.Test.YtigikgphipebiaaDoorOo18
import Derived.Test.YtigikgphipebiaaDoorOo21
/- bushelref05: Join where there is room. -/
namespace Go.Proofs.YtigikgphipebiaaDoor
set_option maxRecDepth 100000
open Go.RowKit
set_option linter.unusedVariables false
set_option maxRecDepth 100000
open Go.RowKit
set_option linter.unusedVariables false
/-- A flag of a state. -/
def bitB (f i : Nat) : Bool := f.testBit i
/-- A value of the reference's sums, in a state. -/
def SumV (w : World) (v : Value) (f : Nat) (t : Int) : Prop := ∃ nb p l c, v = .agg #[.bool (bitB f 0), .bool (bitB f 1), .bool (bitB f 2), .bool (bitB f 3), .bool (bitB f 4), .bool nb, .slice p l c] ∧ IsNum w (.agg #[.bool nb, .slice p l c]) t ∧ Good f t
theorem SumV.below {w w' : World} {v : Value} {f : Nat} {t : Int} (h : SumV w v f t) (hb : Below w.heap.size w w') : SumV w' v f t := by
  obtain ⟨nb, p, l, c, rfl, h2, h3⟩ := h
  exact ⟨nb, p, l, c, rfl, h2.below hb, h3⟩
set_option maxRecDepth 100000
open Go.RowKit
set_option linter.unusedVariables false
/-- The block of a sum of the reference, of seven cells, is written. -/
theorem set7 {w : World} {N : Nat} {T : TypeId} {a b c d e f g a' b' c' d' e' f' g' : Value} (h : w.heap[N]? = some (.cells #[a, b, c, d, e, f, g] T (0, 0))) :
    (((((((w.setCell ⟨N, 0, none⟩ a').setCell ⟨N, 1, none⟩ b').setCell ⟨N, 2, none⟩ c').setCell ⟨N, 3, none⟩ d').setCell ⟨N, 4, none⟩ e').setCell ⟨N, 5, none⟩ f').setCell ⟨N, 6, none⟩ g').heap[N]? = some (.cells #[a', b', c', d', e', f', g'] T (0, 0)) := by
  simp [World.setCell, Array.getElem?_modify, h]
theorem grown7 (w : World) (N : Nat) (a' b' c' d' e' f' g' : Value) :
    w.grownBy (((((((w.setCell ⟨N, 0, none⟩ a').setCell ⟨N, 1, none⟩ b').setCell ⟨N, 2, none⟩ c').setCell ⟨N, 3, none⟩ d').setCell ⟨N, 4, none⟩ e').setCell ⟨N, 5, none⟩ f').setCell ⟨N, 6, none⟩ g') (some N) :=
  grown_then (grown_then (grown_then (grown_then (grown_then (grown_then (grown_set w N 0 a') (grown_set _ N 1 b')) (grown_set _ N 2 c')) (grown_set _ N 3 d')) (grown_set _ N 4 e')) (grown_set _ N 5 f')) (grown_set _ N 6 g')
theorem heap_then {w w' : World} {N : Nat} {o : Obj} (h : w.heap[N]? = some o) (hb : Below w.heap.size w w') : w'.heap[N]? = some o := by
  rw [hb.block N (Array.getElem?_eq_some_iff.1 h).1]; exact h
set_option maxRecDepth 100000
open Go.RowKit
set_option linter.unusedVariables false
end Go.Proofs.YtigikgphipebiaaDoor
/- bushelref05: Add of what is no other finite number. -/
namespace Go.Proofs.YtigikgphipebiaaDoor
set_option maxRecDepth 100000
open Go.RowKit
set_option linter.unusedVariables false
set_option maxRecDepth 100000
open Go.RowKit
set_option linter.unusedVariables false
theorem Good.flag {f g : Nat} {s : Int} (h : Good f s) (hg : g < 32) : Good (f ||| g) s :=
  ⟨or_lt h.1 hg, fun hh => by rw [Nat.testBit_or, h.2.1 hh]; rfl, h.2.2⟩
end Go.Proofs.YtigikgphipebiaaDoor
/- bushelref05: Mean. -/
namespace Go.Proofs.YtigikgphipebiaaDoor
set_option maxRecDepth 100000
open Go.RowKit
set_option linter.unusedVariables false
set_option maxRecDepth 100000
open Go.RowKit
set_option linter.unusedVariables false
end Go.Proofs.YtigikgphipebiaaDoor
/- bushelref05: the bytes. -/
namespace Go.Proofs.YtigikgphipebiaaDoor
set_option maxRecDepth 100000
open Go.RowKit
set_option linter.unusedVariables false
abbrev SixB (N : Nat) (b0 b1 b2 b3 b4 b5 : Bool) (w : World) : Prop := w.cell? ⟨N, 0, none⟩ = some (.bool b0) ∧ w.cell? ⟨N, 1, none⟩ = some (.bool b1) ∧ w.cell? ⟨N, 2, none⟩ = some (.bool b2) ∧ w.cell? ⟨N, 3, none⟩ = some (.bool b3) ∧ w.cell? ⟨N, 4, none⟩ = some (.bool b4) ∧ w.cell? ⟨N, 5, none⟩ = some (.bool b5)
theorem SixB.call {N : Nat} {b0 b1 b2 b3 b4 b5 : Bool} {w w' : World} (h : SixB N b0 b1 b2 b3 b4 b5 w) (hb : Below w.heap.size w w') : SixB N b0 b1 b2 b3 b4 b5 w' :=
  ⟨cell_later hb h.1, cell_later hb h.2.1, cell_later hb h.2.2.1, cell_later hb h.2.2.2.1, cell_later hb h.2.2.2.2.1, cell_later hb h.2.2.2.2.2⟩
theorem SixB.alloc {N : Nat} {b0 b1 b2 b3 b4 b5 : Bool} {w : World} {o : Obj} (h : SixB N b0 b1 b2 b3 b4 b5 w) : SixB N b0 b1 b2 b3 b4 b5 (w.alloc o) := h.call (below_one w o)
theorem BOwn5.mono {w : World} {B B' : Nat} {v : Value} {l : List Int} (h : BOwn5 w B v l) (hb : B' ≤ B) : BOwn5 w B' v l := by
  obtain ⟨h1, h2⟩ := h
  refine ⟨h1, ?_⟩
  rcases h2 with h2 | ⟨g, cap, cur, e, h3, h4⟩
  · exact .inl h2
  · exact .inr ⟨g, cap, cur, e, Nat.le_trans hb h3, h4⟩
end Go.Proofs.YtigikgphipebiaaDoor
/- Both sides of a sum: is; boxes beside sums. -/
namespace Go.Proofs.YtigikgphipebiaaDoor
set_option maxRecDepth 100000
open Go.RowKit
set_option linter.unusedVariables false
attribute [local go_sem ↓] Go.wp_at_zero Go.wp_at_succ
abbrev SevenAt (N : Nat) (b0 b1 b2 b3 b4 b5 : Bool) (v : Value) (w : World) : Prop := w.cell? ⟨N, 0, none⟩ = some (.bool b0) ∧ w.cell? ⟨N, 1, none⟩ = some (.bool b1) ∧ w.cell? ⟨N, 2, none⟩ = some (.bool b2) ∧ w.cell? ⟨N, 3, none⟩ = some (.bool b3) ∧ w.cell? ⟨N, 4, none⟩ = some (.bool b4) ∧ w.cell? ⟨N, 5, none⟩ = some (.bool b5) ∧ w.cell? ⟨N, 6, none⟩ = some v
theorem SevenAt.call {N : Nat} {b0 b1 b2 b3 b4 b5 : Bool} {v : Value} {w w' : World} (h : SevenAt N b0 b1 b2 b3 b4 b5 v w) (hb : Below w.heap.size w w') : SevenAt N b0 b1 b2 b3 b4 b5 v w' :=
  ⟨cell_later hb h.1, cell_later hb h.2.1, cell_later hb h.2.2.1, cell_later hb h.2.2.2.1, cell_later hb h.2.2.2.2.1, cell_later hb h.2.2.2.2.2.1, cell_later hb h.2.2.2.2.2.2⟩
end Go.Proofs.YtigikgphipebiaaDoor
/- Sums that are joined, on both sides at once: one answer for a join, fitting or not. -/
namespace Go.Proofs.YtigikgphipebiaaDoor
set_option maxRecDepth 100000
open Go.RowKit
set_option linter.unusedVariables false
theorem SumV.shape {w : World} {v : Value} {f : Nat} {t : Int} (h : SumV w v f t) : ∃ nb p l c, v = .agg #[.bool (bitB f 0), .bool (bitB f 1), .bool (bitB f 2), .bool (bitB f 3), .bool (bitB f 4), .bool nb, .slice p l c] := by
  obtain ⟨nb, p, l, c, e, -, -⟩ := h
  exact ⟨nb, p, l, c, e⟩
end Go.Proofs.YtigikgphipebiaaDoor
/- Layer 14: the reference's Join. -/
namespace Go.Proofs.YtigikgphipebiaaDoor
set_option maxRecDepth 100000
open Go.RowKit
set_option linter.unusedVariables false
theorem set4_ws {W : World} {R B : Nat} {k n k' n' : Int} {I N I' N' v : Value} {T : TypeId} {ps : List (Value × Wh)} (h : W.heap[R]? = some (.cells (boxV k n I N) T (0, 0))) (h1 : T ≠ 36) (h2 : T ≠ 48) (hw : WsOwn W B v ps) : WsOwn (set4 W R k' n' I' N') B v ps := by
  have e1 : (W.setCell ⟨R, 0, none⟩ (.int .u64 k')).heap[R]? = some (.cells (boxV k' n I N) T (0, 0)) := by simp [World.setCell, Array.getElem?_modify, h]
  have e2 : ((W.setCell ⟨R, 0, none⟩ (.int .u64 k')).setCell ⟨R, 1, none⟩ (.int .i64 n')).heap[R]? = some (.cells (boxV k' n' I N) T (0, 0)) := by simp [World.setCell, Array.getElem?_modify, h]
  exact (((hw.setbox h h1 h2).setbox e1 h1 h2).setbox e2 h1 h2).setbox (box_set2 (u := I') e2) h1 h2
theorem set4_rs {W : World} {R B : Nat} {k n k' n' : Int} {I N I' N' v : Value} {T : TypeId} {ps : List (Value × Re)} (h : W.heap[R]? = some (.cells (boxV k n I N) T (0, 0))) (h1 : T ≠ 40) (h2 : T ≠ 5) (hw : RsOwn W B v ps) : RsOwn (set4 W R k' n' I' N') B v ps := by
  have e1 : (W.setCell ⟨R, 0, none⟩ (.int .u64 k')).heap[R]? = some (.cells (boxV k' n I N) T (0, 0)) := by simp [World.setCell, Array.getElem?_modify, h]
  have e2 : ((W.setCell ⟨R, 0, none⟩ (.int .u64 k')).setCell ⟨R, 1, none⟩ (.int .i64 n')).heap[R]? = some (.cells (boxV k' n' I N) T (0, 0)) := by simp [World.setCell, Array.getElem?_modify, h]
  exact (((hw.setbox h h1 h2).setbox e1 h1 h2).setbox e2 h1 h2).setbox (box_set2 (u := I') e2) h1 h2
end Go.Proofs.YtigikgphipebiaaDoor
/- Layer 14: two cells together, in either order, and three in two ways: plain facts. -/
namespace Go.Proofs.YtigikgphipebiaaDoor
set_option maxRecDepth 100000
open Go.RowKit
set_option linter.unusedVariables false
theorem b4_inj {x y : Int} (hx : 0 ≤ x ∧ x ≤ 4294967295) (hy : 0 ≤ y ∧ y ≤ 4294967295) (h : b4 x = b4 y) : x = y := by
  simp only [b4, List.cons.injEq, and_true] at h
  omega
theorem topB_inj {a b : List Int} (ha : Wd a) (hb : Wd b) : ∀ k, topB a k = topB b k → ∀ i, i < k → a.getD (a.length - 1 - i) 0 = b.getD (b.length - 1 - i) 0
  | 0, _, i, hi => by omega
  | k + 1, h, i, hi => by
    rw [topB_succ, topB_succ] at h
    obtain ⟨h1, h2⟩ := List.append_inj h (by rw [topB_len, topB_len])
    by_cases e : i = k
    · subst e; exact b4_inj (ha.getD _) (hb.getD _) h2
    · exact topB_inj ha hb k h1 i (by omega)
theorem enc_inj {f g : Nat} {t s : Int} {l : List Int} (h : IsEnc f t l) (k : IsEnc g s l) (hf : f < 32) (hg : g < 32) : f = g ∧ t = s := by
  obtain ⟨a, a1, a2, a3, -, a5⟩ := h
  obtain ⟨b, b1, b2, b3, -, b5⟩ := k
  rw [a5] at b5
  unfold encB at b5
  simp only [List.cons_append, List.nil_append, List.cons.injEq] at b5
  obtain ⟨e0, e1, e2, e3⟩ := b5
  have l1 := lowW_le a
  have l2 := lowW_le b
  have ew : lowW a = lowW b := by omega
  have el : a.length = b.length := by omega
  have ek : a.length - lowW a = b.length - lowW b := by omega
  rw [← ek] at e3
  have ht := topB_inj a1 b1 _ e3
  have eab : a = b := by
    apply List.ext_getElem el
    intro i h1 h2
    have q : a.getD i 0 = b.getD i 0 := by
      by_cases hi : i < lowW a
      · rw [lowW_zero a i hi, lowW_zero b i (by omega)]
      · have := ht (a.length - 1 - i) (by omega)
        rw [show a.length - 1 - (a.length - 1 - i) = i by omega, show b.length - 1 - (a.length - 1 - i) = i by omega] at this
        exact this
    simpa [List.getD, List.getElem?_eq_getElem h1, List.getElem?_eq_getElem h2] using q
  subst eab
  by_cases ht0 : t < 0 <;> by_cases hs0 : s < 0 <;> simp [ht0, hs0] at e0 <;> omega

theorem readF_lt (l : List Int) : readF l < 32 := by unfold readF; omega
theorem same_wh (x : Wh) : sameWh x x = true := by simp [sameWh]
theorem sameB_self (x : Nat) : sameB x x = true := by simp [sameB]
theorem same_re (x : Re) : sameRe x x = true := by simp [sameRe, sameB_self]
theorem least_assoc (x y z : Nat) : (if lessB z (if lessB y x then y else x) then z else (if lessB y x then y else x)) = (if lessB (if lessB z y then z else y) x then (if lessB z y then z else y) else x) := by
  unfold lessB
  by_cases h1 : keyI y < keyI x <;> by_cases h2 : keyI z < keyI y <;> by_cases h3 : keyI z < keyI x <;> simp [h1, h2, h3] <;> omega
theorem most_assoc (x y z : Nat) : (if lessB (if lessB x y then y else x) z then z else (if lessB x y then y else x)) = (if lessB x (if lessB y z then z else y) then (if lessB y z then z else y) else x) := by
  unfold lessB
  by_cases h1 : keyI x < keyI y <;> by_cases h2 : keyI y < keyI z <;> by_cases h3 : keyI x < keyI z <;> simp [h1, h2, h3] <;> omega
theorem JC.same {a b c d : Ce} (h : JC a b c) (k : JC a b d) : sameC c d = true :=
  same_iff.2 {
    key := by rw [h.key, k.key]
    cnt := by rw [h.cnt, k.cnt]
    li := by rw [h.li, k.li]
    ln := by rw [h.ln, k.ln]
    is := fun i hi2 => by
      rw [h.li] at hi2
      rw [(h.is i hi2).same (k.is i hi2)]
      exact same_wh _
    ns := fun i hi2 => by
      rw [h.ln] at hi2
      rw [(h.ns i hi2).same (k.ns i hi2)]
      exact same_re _ }
theorem JW.assoc {a b c x y x' y' : Wh} (h1 : JW a b x) (h2 : JW x c x') (h3 : JW b c y) (h4 : JW a y y') : x' = y' := by
  obtain ⟨p1, p2, p3, p4, p5⟩ := x'
  obtain ⟨q1, q2, q3, q4, q5⟩ := y'
  have e1 : p1 = q1 := by have := h2.sum; have := h4.sum; have := h1.sum; have := h3.sum; simp only at *; omega
  have e2 : p2 = q2 := by have := h2.abs; have := h4.abs; have := h1.abs; have := h3.abs; simp only at *; omega
  have e3 : p3 = q3 := tidy_unique h2.wd h4.wd h2.ty h4.ty (by have := h2.sq; have := h4.sq; have := h1.sq; have := h3.sq; simp only at *; omega)
  have e4 : p4 = q4 := by have := h2.mn; have := h4.mn; have := h1.mn; have := h3.mn; simp only at *; omega
  have e5 : p5 = q5 := by have := h2.mx; have := h4.mx; have := h1.mx; have := h3.mx; simp only at *; omega
  rw [e1, e2, e3, e4, e5]
theorem JR.reads {a b x : Re} (h : JR a b x) (hb : Bt5 x.sum) (he : errN x.sum = 0) : readF x.sum = readF a.sum ||| readF b.sum ∧ readT x.sum = readT a.sum + readT b.sum :=
  enc_inj (read_enc hb he) h.sum (readF_lt _) (or_lt (readF_lt _) (readF_lt _))
theorem JR.bt {a b x : Re} (h : JR a b x) : Bt5 x.sum := h.sum.bt (or_lt (readF_lt _) (readF_lt _))
theorem JR.assoc {a b c x y x' y' : Re} (h1 : JR a b x) (h2 : JR x c x') (h3 : JR b c y) (h4 : JR a y y') : x' = y' := by
  obtain ⟨f1, t1⟩ := h1.reads h1.bt h2.e1
  obtain ⟨f3, t3⟩ := h3.reads h3.bt h4.e2
  have k2 := h2.sum
  have k4 := h4.sum
  rw [f1, t1] at k2
  rw [f3, t3, ← Nat.or_assoc, ← Int.add_assoc] at k4
  obtain ⟨p1, p2, p3⟩ := x'
  obtain ⟨q1, q2, q3⟩ := y'
  have e1 : p1 = q1 := k2.unique k4
  have e2 : p2 = q2 := by
    have m2 := h2.mn; have m4 := h4.mn
    rw [h1.mn] at m2
    rw [h3.mn] at m4
    rw [least_assoc] at m2
    exact m2.trans m4.symm
  have e3 : p3 = q3 := by
    have m2 := h2.mx; have m4 := h4.mx
    rw [h1.mx] at m2
    rw [h3.mx] at m4
    rw [most_assoc] at m2
    exact m2.trans m4.symm
  rw [e1, e2, e3]
theorem errJ_parts {a b : Ce} (h : errJ a b = 0) : a.key = b.key ∧ a.is.length = b.is.length ∧ a.ns.length = b.ns.length ∧ fitB (a.cnt + b.cnt) = true := by
  unfold errJ at h
  by_cases h1 : a.key = b.key ∧ a.is.length = b.is.length ∧ a.ns.length = b.ns.length
  · rw [if_pos h1] at h
    by_cases h2 : fitB (a.cnt + b.cnt) = true ∧ ∀ k, k < a.is.length → okW (wg a.is k) (wg b.is k) = true
    · exact ⟨h1.1, h1.2.1, h1.2.2, h2.1⟩
    · rw [if_neg h2] at h; cases h
  · rw [if_neg h1] at h; cases h
/-- Three cells, in two ways. -/
theorem JC.assoc {a b c x y x' y' : Ce} (h1 : JC a b x) (h2 : JC x c x') (h3 : JC b c y) (h4 : JC a y y') (e1 : errJ a b = 0) : sameC x' y' = true := by
  obtain ⟨q1, q2, q3, -⟩ := errJ_parts e1
  exact same_iff.2 {
    key := by rw [h2.key, h1.key, h4.key]
    cnt := by rw [h2.cnt, h1.cnt, h4.cnt, h3.cnt, Int.add_assoc]
    li := by rw [h2.li, h1.li, h4.li]
    ln := by rw [h2.ln, h1.ln, h4.ln]
    is := fun i hi => by
      rw [h2.li, h1.li] at hi
      rw [JW.assoc (h1.is i hi) (h2.is i (by rw [h1.li]; exact hi)) (h3.is i (by omega)) (h4.is i hi)]
      exact same_wh _
    ns := fun i hi => by
      rw [h2.ln, h1.ln] at hi
      rw [JR.assoc (h1.ns i hi) (h2.ns i (by rw [h1.ln]; exact hi)) (h3.ns i (by omega)) (h4.ns i hi)]
      exact same_re _ }
/-- What is put together is a cell again, a little longer. -/
theorem fitB_i64 {x : Int} (h : fitB x = true) : I64 x := by unfold fitB at h; unfold I64; simp at h; omega
theorem WhW.wd {x : Wh} (h : WhW x) : Wd x.sq := h.sq
theorem JW.len {x y z : Wh} (h : JW x y z) (hx : Wd x.sq) (hy : Wd y.sq) {n : Nat} (lx : x.sq.length ≤ n) (ly : y.sq.length ≤ n) : z.sq.length ≤ n + 1 := by
  refine h.ty.wlen h.wd ?_
  rw [h.sq]
  have h0 := (wv_range hx).1
  have h0' := (wv_range hy).1
  have h1 := (wv_range hx).2
  have h2 := (wv_range hy).2
  have e : ∀ k, k ≤ n → (4294967296 : Int) ^ k ≤ 4294967296 ^ n := fun k hk => by
    have h3 := Nat.pow_le_pow_right (n := 4294967296) (by decide) hk
    have e1 : ((4294967296 ^ k : Nat) : Int) = 4294967296 ^ k := by rw [Int.natCast_pow]; rfl
    have e2 : ((4294967296 ^ n : Nat) : Int) = 4294967296 ^ n := by rw [Int.natCast_pow]; rfl
    rw [← e1, ← e2]
    exact Int.ofNat_le.2 h3
  have e1 := e _ lx
  have e2 := e _ ly
  rw [Int.pow_succ]
  omega
theorem JW.w {x y z : Wh} (h : JW x y z) (hx : WhW x) (hy : WhW y) (lz : z.sq.length ≤ 9223372036854775807) : WhW z where
  sum := by rw [h.sum]; exact fitB_i64 h.f1
  abs := by rw [h.abs]; exact fitB_i64 h.f2
  sq := h.wd
  len := lz
  mn := by have := hx.mn; have := hy.mn; rw [h.mn]; unfold I64 at *; omega
  mx := by have := hx.mx; have := hy.mx; rw [h.mx]; unfold I64 at *; omega
theorem JR.w {x y z : Re} (h : JR x y z) (hx : ReW x) (hy : ReW y) : ReW z where
  sum := h.bt
  len := by have := h.sum.len; omega
  mn := by rw [h.mn]; split; exact hy.mn; exact hx.mn
  mx := by rw [h.mx]; split; exact hy.mx; exact hx.mx
/-- A cell's lists are not long. -/
structure ShortC (n : Nat) (c : Ce) : Prop where
  li : c.is.length ≤ 10
  ln : c.ns.length ≤ 10
  sq : ∀ k, k < c.is.length → (wg c.is k).sq.length ≤ n
theorem light_short {c : Ce} (h : lightC c = true) : ShortC 20 c := by
  obtain ⟨h1, h2, h3, -⟩ := light_yes.1 h
  exact ⟨h1, h2, h3⟩
theorem JC.short {a b c : Ce} {n : Nat} (h : JC a b c) (ha : CeW a) (hb : CeW b) (sa : ShortC n a) (sb : ShortC n b) (hi : a.is.length = b.is.length) : ShortC (n + 1) c where
  li := by rw [h.li]; exact sa.li
  ln := by rw [h.ln]; exact sa.ln
  sq := fun k hk => by
    rw [h.li] at hk
    exact (h.is k hk).len (ha.wg hk).wd (hb.wg (by omega)).wd (sa.sq k hk) (sb.sq k (by omega))
theorem JC.w {a b c : Ce} {n : Nat} (h : JC a b c) (ha : CeW a) (hb : CeW b) (sc : ShortC n c) (hn : n ≤ 1000) (e : errJ a b = 0) : CeW c := by
  obtain ⟨q1, q2, q3, q4⟩ := errJ_parts e
  refine ⟨by rw [h.key]; exact ha.key, by rw [h.cnt]; exact fitB_i64 q4, fun x hx => ?_, fun x hx => ?_⟩
  · obtain ⟨k, hk, rfl⟩ := List.getElem_of_mem hx
    have hk2 : k < a.is.length := by rw [← h.li]; exact hk
    rw [← wg_get hk]
    exact (h.is k hk2).w (ha.wg hk2) (hb.wg (by omega)) (by have := sc.sq k hk; omega)
  · obtain ⟨k, hk, rfl⟩ := List.getElem_of_mem hx
    have hk2 : k < a.ns.length := by rw [← h.ln]; exact hk
    rw [← rg_get hk]
    exact (h.ns k hk2).w (ha.rg hk2) (hb.rg (by omega))
theorem ce0_short (n : Nat) : ShortC n ce0 := ⟨by simp [ce0], by simp [ce0], fun k hk => by simp [ce0] at hk⟩
theorem ce0_w : CeW ce0 := ⟨by decide, by unfold I64; decide, fun x hx => by simp [ce0] at hx, fun x hx => by simp [ce0] at hx⟩
end Go.Proofs.YtigikgphipebiaaDoor
