/- Contracts that the law leans on, pruned and merged: Aggp. -/
import Derived.Test.YtigikgphipebiaaGreatDoorRi22
import Derived.Test.YtigikgphipebiaaGreatDoorRi25
import Derived.Test.YtigikgphipebiaaGreatDoorRi33
import Derived.Test.YtigikgphipebiaaGreatDoorRi35
import Derived.Test.YtigikgphipebiaaGreatDoorRi36
/- Layer 14: the program's One. -/
namespace Go.Proofs.YtigikgphipebiaaGreatDoor
set_option maxRecDepth 100000
open Go.RowKit
set_option linter.unusedVariables false
def minB (l : List Int) : Bool := (List.range l.length).any fun k => l.getD k 0 == -9223372036854775808
theorem min_yes {l : List Int} {k : Nat} (hk : k < l.length) (h : l.getD k 0 = -9223372036854775808) : minB l = true := List.any_eq_true.2 ⟨k, by simpa using hk, by rw [h]; rfl⟩
theorem min_no {l : List Int} (h : ∀ j, j < l.length → l.getD j 0 ≠ -9223372036854775808) : minB l = false := by
  unfold minB
  rw [List.any_eq_false]
  intro x hx
  simpa using h x (by simpa using hx)
/-- Why there is no cell of a fact; 0 where there is. -/
def oneE (S : Sc) (m : Int) (f : Fa) : Nat := if checkL S = 0 then if fitsL S f = 0 then if ofE S m f.cs = 0 then if minB f.is = true then 10 else 0 else ofE S m f.cs else fitsL S f else 1
structure OC (S : Sc) (m : Int) (f : Fa) (c : Ce) : Prop where
  key : c.key = ofL S m f.cs
  cnt : c.cnt = 1
  li : c.is.length = f.is.length
  ln : c.ns.length = f.ns.length
  is : ∀ k, k < f.is.length → OW (f.is.getD k 0) (wg c.is k)
  ns : ∀ k, k < f.ns.length → OR (f.ns.getD k 0) (rg c.ns k)
def POne (S : Sc) (m : Int) (f : Fa) (w : World) (e : Ending) (w' : World) : Prop :=
  ∃ c I N, e = .returned (.tuple #[CeV c I N, .int .i64 (oneE S m f)]) ∧ CeM w' I N c ∧ (oneE S m f = 0 → OC S m f c) ∧ (oneE S m f ≠ 0 → c = ce0) ∧ Below w.heap.size w w'
theorem po_no {S : Sc} {m : Int} {f : Fa} {w w' : World} {k : Nat} (h : oneE S m f = k) (hk : k ≠ 0) (hb : Below w.heap.size w w') : POne S m f w (.returned (.tuple #[.agg #[.int .u64 0, .int .i64 0, .slice none 0 0, .slice none 0 0], .int .i64 k])) w' :=
  ⟨ce0, _, _, by rw [h]; rfl, ce0_mem w', fun e => absurd (h.symm.trans e) hk, fun _ => rfl, hb⟩
theorem boxes_three {w : World} {cs ds es : Array Value} {T U V : TypeId} : (((w.alloc (.cells cs T)).alloc (.cells ds U)).alloc (.cells es V)).heap[w.heap.size]? = some (.cells cs T (0, 0)) ∧ (((w.alloc (.cells cs T)).alloc (.cells ds U)).alloc (.cells es V)).heap[w.heap.size + 1]? = some (.cells ds U (0, 0)) ∧ (((w.alloc (.cells cs T)).alloc (.cells ds U)).alloc (.cells es V)).heap[w.heap.size + 1 + 1]? = some (.cells es V (0, 0)) ∧ Below w.heap.size w (((w.alloc (.cells cs T)).alloc (.cells ds U)).alloc (.cells es V)) := by
  have b1 := below_one w (.cells cs T)
  have b2 := below_one (w.alloc (.cells cs T)) (.cells ds U)
  have b3 := below_one ((w.alloc (.cells cs T)).alloc (.cells ds U)) (.cells es V)
  have h1 : (w.alloc (.cells cs T)).heap[w.heap.size]? = some (.cells cs T (0, 0)) := heap_alloc_new w _
  have h2 : ((w.alloc (.cells cs T)).alloc (.cells ds U)).heap[(w.alloc (.cells cs T)).heap.size]? = some (.cells ds U (0, 0)) := heap_alloc_new _ _
  have h3 : (((w.alloc (.cells cs T)).alloc (.cells ds U)).alloc (.cells es V)).heap[((w.alloc (.cells cs T)).alloc (.cells ds U)).heap.size]? = some (.cells es V (0, 0)) := heap_alloc_new _ _
  simp only [World.size_alloc] at h2 h3
  refine ⟨?_, ?_, h3, below_then (below_then b1 b2) b3⟩
  · rw [(below_then b2 b3).block _ (by simp)]; exact h1
  · rw [b3.block _ (by simp)]; exact h2
theorem snoc_wh {P : Wh → Prop} {ps : List (Value × Wh)} {q : Value} {x : Wh} {j k : Nat} (hp : ps.length = k) (hj : j < k + 1) (h1 : j < k → P (wg (ps.map Prod.snd) j)) (h2 : j = k → P x) : P (wg ((ps ++ [(q, x)]).map Prod.snd) j) := by
  by_cases e : j = k
  · have e2 : wg ((ps ++ [(q, x)]).map Prod.snd) j = x := by rw [wg_get (by simp [hp]; omega)]; subst e; simp [← hp]
    rw [e2]; exact h2 e
  · have e2 : wg ((ps ++ [(q, x)]).map Prod.snd) j = wg (ps.map Prod.snd) j := by rw [wg_get (by simp [hp]; omega), wg_get (by simp [hp]; omega)]; simp [List.getElem_append_left, hp, show j < k by omega]
    rw [e2]; exact h1 (by omega)
theorem snoc_re {P : Re → Prop} {ps : List (Value × Re)} {q : Value} {x : Re} {j k : Nat} (hp : ps.length = k) (hj : j < k + 1) (h1 : j < k → P (rg (ps.map Prod.snd) j)) (h2 : j = k → P x) : P (rg ((ps ++ [(q, x)]).map Prod.snd) j) := by
  by_cases e : j = k
  · have e2 : rg ((ps ++ [(q, x)]).map Prod.snd) j = x := by rw [rg_get (by simp [hp]; omega)]; subst e; simp [← hp]
    rw [e2]; exact h2 e
  · have e2 : rg ((ps ++ [(q, x)]).map Prod.snd) j = rg (ps.map Prod.snd) j := by rw [rg_get (by simp [hp]; omega), rg_get (by simp [hp]; omega)]; simp [List.getElem_append_left, hp, show j < k by omega]
    rw [e2]; exact h1 (by omega)
set_option maxHeartbeats 8000000 in
theorem pone_any (w : World) (D I M V C J X : Value) (S : Sc) (m : Int) (f : Fa) (h : Sch4 w D I M V S) (hw : SWf S) (h' : Fact3 w C J X f) (hf : FaWf f) (m0 : 0 ≤ m) (m1 : m ≤ 4294967295) (hT : Tab w) (hT2 : Tab64 w) :
    Calls Tryz.prog 11 #[SchV D I M V, .int .u32 m, FactV C J X] w (POne S m f w) := by
  obtain ⟨b1, b2, b3, b4⟩ := boxes_three (w := w) (T := 26) (U := 32) (V := 41) (cs := #[D, I, M, V]) (ds := #[C, J, X]) (es := #[.int .u64 0, .int .i64 0, .slice none 0 0, .slice none 0 0])
  have HB := Lib.hid b4
  have HX := Lib.hid (show Box _ w.heap.size D I M V from b1)
  have HY := Lib.hid b2
  have HZ := Lib.hid b3
  have HC := Lib.hid (fun w1 (hb : Below w.heap.size w w1) => fcheck_any w1 D I M V C J X S f (h.below hb) hw (h'.below hb) hf)
  have HO := Lib.hid (fun w1 (hb : Below w.heap.size w w1) => kof_any w1 D I M V C S m f.cs (h.below hb) hw (h'.c.below hb) m0 m1)
  have HFi := Lib.hid (fun w1 (hb : Below w.heap.size w w1) => h'.i.below hb)
  have HFn := Lib.hid (fun w1 (hb : Below w.heap.size w w1) => h'.n.below hb)
  have HOw := Lib.hid (fun k (hk : k < f.is.length) w1 => owhole_any w1 (f.is.getD k 0) (getD_all (P := I64) hf.i hk))
  have HOr := Lib.hid (fun k (hk : k < f.ns.length) w1 (hb : Below w.heap.size w w1) => oreal_any w1 (f.ns.getD k 0) (getD_all (P := W64) hf.n hk) (hT.call hb) (hT2.call hb))
  have HSm := Lib.hid (fun hc h => fit_small (S := S) hc hf h)
  have HE := Lib.hid (show oneE S m f = if checkL S = 0 then if fitsL S f = 0 then if ofE S m f.cs = 0 then if minB f.is = true then 10 else 0 else ofE S m f.cs else fitsL S f else 1 from rfl)
  obtain ⟨⟨a1, c1, rfl⟩, ⟨a2, c2, rfl⟩, ⟨a3, c3, rfl⟩, a4, c4, rfl⟩ := h.slices
  obtain ⟨⟨p1, d1, rfl⟩, ⟨p2, d2, rfl⟩, p3, d3, rfl⟩ := h'.slices
  unfold OWP at HOw
  unfold ORP at HOr
  clear h h' hw hf hT hT2 m0 m1 b1 b2 b3 b4
  go_enter Tryz.func11, Tryz.ntmps11
  go_upto_region 1 with fail
  generalize ((w.alloc (SchO (.slice a1 S.ds.length c1) (.slice a2 S.is.length c2) (.slice a3 S.ns.length c3) (.slice a4 S.vs.length c4))).alloc (FaO (.slice p1 f.cs.length d1) (.slice p2 f.is.length d2) (.slice p3 f.ns.length d3))).alloc (.cells #[.int .u64 0, .int .i64 0, .slice none 0 0, .slice none 0 0] 41) = W at *
  obtain ⟨x0, x1, x2, x3⟩ := HX.out.reads
  obtain ⟨y0, y1, y2⟩ := row3 HY.out
  obtain ⟨⟨z0, z1, z2, z3⟩, zf⟩ := box_reads HZ.out
  have hlt : w.heap.size + 1 + 1 < W.heap.size := (Array.getElem?_eq_some_iff.1 HZ.out).1
  have HNo := Lib.hid (fun (w9 : World) (k : Nat) (hb9 : Below W.heap.size W w9) (he : oneE S m f = k) (hk : k ≠ 0) => And.intro (set4_box (k' := 0) (n' := 0) (I' := .slice none 0 0) (N' := .slice none 0 0) ((hb9.block _ hlt).trans HZ.out)) (po_no he hk (set4_below (R := w.heap.size + 1 + 1) (k' := 0) (n' := 0) (I' := .slice none 0 0) (N' := .slice none 0 0) (HB.out.trans (hb9.mono HB.out.size)) (by omega))))
  unfold set4 at HNo
  go_wp2_with fail
  refine (HC.out _ HB.out).mono ?_; rintro e w1 ⟨rfl, hb1⟩
  have HW1 := Lib.hid hb1
  have HB1 := Lib.hid (below_then HB.out hb1)
  have x0 := cell_later hb1 x0
  have x1 := cell_later hb1 x1
  have x2 := cell_later hb1 x2
  have x3 := cell_later hb1 x3
  have y0 := cell_later hb1 y0
  have y1 := cell_later hb1 y1
  have y2 := cell_later hb1 y2
  have hz := (hb1.block _ hlt).trans HZ.out
  clear hb1 z0 z1 z2 z3 zf HC
  obtain ⟨⟨z0, z1, z2, z3⟩, zf⟩ := box_reads hz
  have hE1 : ∃ E1 : Nat, (if checkL S = 0 then ((fitsL S f : Nat) : Int) else 1) = (E1 : Int) ∧ ((E1 = 0 ∧ checkL S = 0 ∧ fitsL S f = 0) ∨ (E1 ≠ 0 ∧ oneE S m f = E1)) := by
    by_cases q : checkL S = 0
    · refine ⟨fitsL S f, by rw [if_pos q], ?_⟩
      by_cases q2 : fitsL S f = 0
      · exact .inl ⟨q2, q, q2⟩
      · exact .inr ⟨q2, by rw [HE.out, if_pos q, if_neg q2]⟩
    · exact ⟨1, by rw [if_neg q]; rfl, .inr ⟨by decide, by rw [HE.out, if_neg q]⟩⟩
  obtain ⟨E1, e1, hE1⟩ := hE1
  rw [e1]
  clear e1
  rcases hE1 with ⟨rfl, hc0, hf0⟩ | ⟨hne, hoe⟩
  rotate_left
  · have HR := Lib.hid (HNo.out _ E1 HW1.out hoe hne)
    have hn : ((E1 : Int) != 0) = true := by simp [hne]
    clear HNo hoe hne HO HOw HOr HFi HFn HSm HE hz
    go_wp2_with fail
    obtain ⟨⟨r0, r1, r2, r3⟩, -⟩ := box_reads HR.out.1
    exact bodyPost_ret (v := .tuple #[.agg #[.int .u64 0, .int .i64 0, .slice none 0 0, .slice none 0 0], .int .i64 E1]) (by simp [results, Tryz.results11, go_sem, r0, r1, r2, r3]) rfl HR.out.2
  · have HE2 := Lib.hid (show oneE S m f = if ofE S m f.cs = 0 then if minB f.is = true then 10 else 0 else ofE S m f.cs by rw [HE.out, if_pos hc0, if_pos hf0])
    have HSz := Lib.hid (HSm.out hc0 hf0)
    clear HE HSm
    go_wp2_with fail
    refine (HO.out _ HB1.out).mono ?_; rintro e w2 ⟨rfl, hb2⟩
    have HW2 := Lib.hid (below_then HW1.out hb2)
    have HB2 := Lib.hid (below_then HB1.out hb2)
    have y1 := cell_later hb2 y1
    have y2 := cell_later hb2 y2
    have hz2 := (HW2.out.block _ hlt).trans HZ.out
    clear hb2 z0 z1 z2 z3 zf HO x0 x1 x2 x3 y0 hz
    obtain ⟨⟨z0, z1, z2, z3⟩, zf⟩ := box_reads hz2
    by_cases ho : ofE S m f.cs = 0
    rotate_left
    · have HR := Lib.hid (HNo.out _ (ofE S m f.cs) HW2.out (by rw [HE2.out, if_neg ho]) ho)
      have hn : ((ofE S m f.cs : Int) != 0) = true := by simp [ho]
      clear HNo HOw HOr HFi HFn HE2 hz2 ho
      generalize ofE S m f.cs = E1 at *
      generalize ofL S m f.cs = K at *
      go_wp2_with fail
      obtain ⟨⟨r0, r1, r2, r3⟩, -⟩ := box_reads HR.out.1
      exact bodyPost_ret (v := .tuple #[.agg #[.int .u64 0, .int .i64 0, .slice none 0 0, .slice none 0 0], .int .i64 E1]) (by simp [results, Tryz.results11, go_sem, r0, r1, r2, r3]) rfl HR.out.2
    · have HE3 := Lib.hid (show oneE S m f = if minB f.is = true then 10 else 0 by rw [HE2.out, if_pos ho])
      have HOC := Lib.hid (fun c k1 k2 k3 k4 k5 k6 => (⟨k1, k2, k3, k4, k5, k6⟩ : OC S m f c))
      rw [ho]
      clear HE2 ho
      generalize ofL S m f.cs = K at *
      go_upto_region 8 with fail
      have hb3 := below_one w2 (.cells (boxV K 1 (.slice none 0 0) (.slice none 0 0)) 41)
      have HC0 := Lib.hid (show (w2.alloc (.cells (boxV K 1 (.slice none 0 0) (.slice none 0 0)) 41)).heap[w2.heap.size]? = some (.cells (boxV K 1 (.slice none 0 0) (.slice none 0 0)) 41 (0, 0)) from heap_alloc_new w2 _)
      have y1 := cell_later hb3 y1
      have y2 := cell_later hb3 y2
      have HW3 := Lib.hid hb3
      have hR2 : w.heap.size + 1 + 1 < w2.heap.size := Nat.lt_of_lt_of_le hlt HW2.out.size
      have hF2 : w.heap.size + 1 < w2.heap.size := by omega
      have HY2 := Lib.hid ((HW2.out.block _ (by omega)).trans HY.out)
      have HZ2 := Lib.hid hz2
      clear hb3 z0 z1 z2 z3 zf hz2
      generalize w2.alloc (.cells (boxV K 1 (.slice none 0 0) (.slice none 0 0)) 41) = W3 at *
      obtain ⟨i0, hi, hz0, hz1, hz2⟩ := info_parts Tryz.infoWhole
      have hmi : f.is.length ≤ 9223372036854775807 := by have := HSz.out.2.2.1; omega
      have hmn : f.ns.length ≤ 9223372036854775807 := by have := HSz.out.2.2.2; omega
      go_wp2_with fail
      clear y1 y2
      go_loopw [42] (fun iv wr => ∃ (k : Nat) (v : Value) (ps : List (Value × Wh)), k ≤ f.is.length ∧ iv = .int .i64 k ∧ Hid (ps.length = k ∧ Below w2.heap.size w2 wr ∧ wr.heap[w2.heap.size]? = some (.cells (boxV K 1 v (.slice none 0 0)) 41 (0, 0)) ∧ WsOwn wr w2.heap.size v ps ∧ ∀ j, j < k → f.is.getD j 0 ≠ -9223372036854775808 ∧ OW (f.is.getD j 0) (wg (ps.map Prod.snd) j))) (fun iv _ => f.is.length - (intOf iv).toNat)
      case atStart => exact ⟨0, _, [], Nat.zero_le _, rfl, Lib.hid ⟨rfl, HW3.out, HC0.out, WsOwn.nil _ _, fun j hj => by omega⟩⟩
      case round =>
        obtain ⟨k, v, ps, hk, rfl, HS⟩ := hrel
        have HBw := Lib.hid (HB2.out.trans (HS.out.2.1.mono HB2.out.size))
        by_cases hlk : k < f.is.length
        · have hlk' : (k : Int) < (f.is.length : Int) := by omega
          have hle : Hid (k + 1 ≤ f.is.length) := Lib.hid (by omega)
          obtain ⟨b, off, rfl, -, g0⟩ := int_at (HFi.out _ HBw.out) hlk
          have HOk := Lib.hid (HOw.out k hlk)
          have HSk := Lib.hid (fun E (q : oneE S m f = E) => q)
          obtain ⟨x, hx⟩ : ∃ x, f.is.getD k 0 = x := ⟨_, rfl⟩
          have HXk := Lib.hid hx
          rw [hx] at g0 HOk
          clear hx
          go_wp2_with fail
          refine (HOk.out _).mono ?_; rintro e w4 ⟨z0, z1, lz, z3, z4, pq, cq, E, rfl, hb4, hc, hO⟩
          have hb5 := below_then hb4 (below_one w4 (.cells #[.int .i64 z0, .int .i64 z1, .slice pq lz.length cq, .int .i64 z3, .int .i64 z4] 75))
          obtain ⟨e0, e1, e2, e3, e4⟩ := row5 (heap_alloc_new w4 (.cells #[.int .i64 z0, .int .i64 z1, .slice pq lz.length cq, .int .i64 z3, .int .i64 z4] 75))
          have HB5 := Lib.hid (HS.out.2.1.trans (hb5.mono HS.out.2.1.size))
          have HWs := Lib.hid (HS.out.2.2.2.1.below hb5)
          have HOq := Lib.hid (own_keep (own_low14 hO (B' := w2.heap.size) HS.out.2.1.size) (below_one w4 (.cells #[.int .i64 z0, .int .i64 z1, .slice pq lz.length cq, .int .i64 z3, .int .i64 z4] 75)))
          have hCC := (hb5.block _ (Array.getElem?_eq_some_iff.1 HS.out.2.2.1).1).trans HS.out.2.2.1
          have HCC := Lib.hid hCC
          have HPs := Lib.hid HS.out.1
          have HJl := Lib.hid HS.out.2.2.2.2
          clear hb4 hb5 hO g0 HS HOk
          go_upto_region 12 with fail
          generalize w4.alloc (.cells #[.int .i64 z0, .int .i64 z1, .slice pq lz.length cq, .int .i64 z3, .int .i64 z4] 75) = w5 at *
          rcases hc with ⟨hxm, rfl⟩ | ⟨hxm, rfl, hOW⟩
          · have HR := Lib.hid (HNo.out w5 10 (HW2.out.trans (HB5.out.mono HW2.out.size)) (by rw [HE3.out, if_pos (min_yes hlk (HXk.out.trans hxm))]) (by decide))
            have hzz := (HB5.out.block _ hR2).trans HZ2.out
            obtain ⟨⟨q0, q1, q2, q3⟩, zf⟩ := box_reads hzz
            clear HNo HOw HOr HFi HFn hCC hzz e0 e1 e2 e3 e4 hxm
            go_wp2_with fail
            obtain ⟨⟨r0, r1, r2, r3⟩, -⟩ := box_reads HR.out.1
            exact bodyPost_ret (v := .tuple #[.agg #[.int .u64 0, .int .i64 0, .slice none 0 0, .slice none 0 0], .int .i64 10]) (by simp [results, Tryz.results11, go_sem, r0, r1, r2, r3]) rfl HR.out.2
          · have HOW := Lib.hid (And.intro hxm hOW)
            obtain ⟨pv, cv, rfl⟩ := own_any14 HWs.out.1
            obtain ⟨⟨-, -, q2, -⟩, -⟩ := box_reads hCC
            clear hxm hOW hCC
            go_wp2_with (at_builtin; refine wpList_append_own _ rfl _ _ 38 rfl w2.heap.size 75 i0 (.agg #[.int .i64 0, .int .i64 0, .slice none 0 0, .int .i64 0, .int .i64 0]) 5 56 Tryz.underlying38 hi hz0 hz1 hz2 zcells_whole (by decide) _ _ (cellsW ps) rfl (own_keep HWs.out.1 (below_one _ _)) ⟨w5.heap.size, 0, none⟩ 1 1 [.int .i64 z0, .int .i64 z1, .slice pq lz.length cq, .int .i64 z3, .int .i64 z4] rfl rfl (World.news_of_block (heap_alloc_new w5 _)) (by intro u hu; simp at hu; rcases hu with rfl | rfl | rfl | rfl | rfl <;> rfl) (by have := HPs.out; have := HSz.out.2.2.1; unfold maxLen; omega) (by have := HPs.out; have := HSz.out.2.2.1; omega) (by have := HB5.out.size; simp; omega) ?_; intro v' w9 hown hgrow hiff; clear hiff; have HZ9 := Lib.hid (WsOwn.push (x := ⟨z0, z1, lz, z3, z4⟩) (HWs.out.below (below_one _ _)) (own_keep HOq.out (below_one _ _)) hown hgrow); have HC9 := Lib.hid (box_stay (heap_then HCC.out (below_one _ _)) (own_keep HWs.out.1 (below_one _ _)) (by decide) hgrow); have HB9 := Lib.hid (Below.grown (HB5.out.trans ((below_one _ _).mono HB5.out.size)) hgrow (by have := HB5.out.size; simp; omega) (fun gg hg => (World.ownsRow.lt HWs.out.1 gg hg).1)); obtain ⟨⟨s0, s1, s2, s3⟩, sf⟩ := box_reads HC9.out; obtain ⟨pv', cv', rfl⟩ := own_any14 hown; clear hown hgrow)
            have HC10 := Lib.hid (box_set2 (u := .slice pv' (ps.length + 1) cv') HC9.out)
            have HZ10 := Lib.hid (HZ9.out.setbox (j := 2) (u := .slice pv' (ps.length + 1) cv') HC9.out (by decide) (by decide))
            have HB10 := Lib.hid (HB9.out.setCell (p := ⟨w2.heap.size, 2, none⟩) (Nat.le_refl _) (.slice pv' (ps.length + 1) cv'))
            go_roundw
            case rel => exact ⟨k + 1, _, ps ++ [(.slice pq lz.length cq, ⟨z0, z1, lz, z3, z4⟩)], hle.out, by go_num, Lib.hid ⟨by simp [HPs.out], HB10.out, HC10.out, HZ10.out, fun j hj => ⟨if e : j < k then (HJl.out j e).1 else by (obtain rfl : j = k := by omega); rw [HXk.out]; exact HOW.out.1, snoc_wh HPs.out hj (fun e => (HJl.out j e).2) (fun e => by subst e; rw [HXk.out]; exact HOW.out.2)⟩⟩⟩
            case measure => simp [intOf]; omega
        · have : k = f.is.length := by omega
          subst this
          obtain ⟨pv, cv, rfl⟩ := own_any14 HS.out.2.2.2.1.1
          have HMn := Lib.hid (show oneE S m f = 0 by rw [HE3.out, if_neg (by rw [min_no (fun j hj => (HS.out.2.2.2.2 j hj).1)]; decide)])
          have HJW := Lib.hid (fun j (hj : j < f.is.length) => (HS.out.2.2.2.2 j hj).2)
          have HPs := Lib.hid HS.out.1
          obtain ⟨-, -, y2⟩ := row3 ((HS.out.2.1.block _ hF2).trans HY2.out)
          have HV0 := Lib.hid (And.intro HS.out.2.1 (And.intro HS.out.2.2.1 HS.out.2.2.2.1))
          obtain ⟨j0, hj, hy0, hy1, hy2⟩ := info_parts Tryz.infoReal
          clear HS hlk hk HE3 HBw
          generalize wr = wz at *
          go_wp2_with fail
          clear y2
          go_loopw [65] (fun iv wr => ∃ (k : Nat) (v2 : Value) (rs : List (Value × Re)), k ≤ f.ns.length ∧ iv = .int .i64 k ∧ Hid (rs.length = k ∧ Below w2.heap.size w2 wr ∧ wr.heap[w2.heap.size]? = some (.cells (boxV K 1 (.slice pv ps.length cv) v2) 41 (0, 0)) ∧ WsOwn wr w2.heap.size (.slice pv ps.length cv) ps ∧ RsOwn wr w2.heap.size v2 rs ∧ ∀ j, j < k → OR (f.ns.getD j 0) (rg (rs.map Prod.snd) j))) (fun iv _ => f.ns.length - (intOf iv).toNat)
          case atStart => exact ⟨0, _, [], Nat.zero_le _, rfl, Lib.hid ⟨rfl, HV0.out.1, HV0.out.2.1, HV0.out.2.2, RsOwn.nil _ _, fun j hj => by omega⟩⟩
          case round =>
            obtain ⟨k, v2, rs, hk, rfl, HS⟩ := hrel
            obtain ⟨pv2, cv2, rfl⟩ := own_any14 HS.out.2.2.2.2.1.1
            have HBw := Lib.hid (HB2.out.trans (HS.out.2.1.mono HB2.out.size))
            by_cases hlk : k < f.ns.length
            · have hlk' : (k : Int) < (f.ns.length : Int) := by omega
              have hle : Hid (k + 1 ≤ f.ns.length) := Lib.hid (by omega)
              obtain ⟨b, off, rfl, -, g0⟩ := fl_at (HFn.out _ HBw.out) hlk
              have HOk := Lib.hid (HOr.out k hlk)
              obtain ⟨x, hx⟩ : ∃ x, f.ns.getD k 0 = x := ⟨_, rfl⟩
              have HXk := Lib.hid hx
              rw [hx] at g0 HOk
              have hk0 := (box_reads HS.out.2.2.1).1.2.2.2
              have HCl := Lib.hid (Array.getElem?_eq_some_iff.1 HS.out.2.2.1).1
              have HRl := Lib.hid HS.out.1
              clear hx
              go_upto_region 19 with fail
              have hk : wr.drew.cell? ⟨w2.heap.size, 3, none⟩ = some (.slice pv2 rs.length cv2) := hk0
              clear g0
              refine wp_region_z (S := fun w' => w'.cell? ⟨w2.heap.size, 3, none⟩ = some (.slice pv2 rs.length cv2)) 7 (by kernel_rfl) hk (fun _ => ?_)
              refine wpZ_take (i := 0) (oi := { dst := some 69, op := _, type := _, pos := _, after := _, guard := _ }) (v := .pointer (some ⟨w2.heap.size, 3, none⟩)) rfl (by kernel_rfl) (by kernel_rfl) (by kernel_rfl) (by kernel_rfl) (fun _ _ _ h => h) (Or.inl ⟨by kernel_rfl, fun w hSw => by (try dsimp only at hSw); first | (go_simp; done) | (go_simp; rfl)⟩) hk ?_
              try simp only [Act.put, List.setIfInBounds_toArray, List.set_cons_zero, List.set_cons_succ]
              refine wpZ_take (i := 1) (oi := { dst := some 70, op := _, type := _, pos := _, after := _, guard := _ }) (v := .slice pv2 rs.length cv2) rfl (by kernel_rfl) (by kernel_rfl) (by kernel_rfl) (by kernel_rfl) (fun _ _ _ h => h) (Or.inl ⟨by kernel_rfl, fun w hSw => by (try dsimp only at hSw); first | (go_simp; done) | (go_simp; rfl)⟩) hk ?_
              try simp only [Act.put, List.setIfInBounds_toArray, List.set_cons_zero, List.set_cons_succ]
              refine wpZ_take (i := 2) (oi := { dst := some 71, op := _, type := _, pos := _, after := _, guard := _ }) (v := .float .f64 x) rfl (by kernel_rfl) (by kernel_rfl) (by kernel_rfl) (by kernel_rfl) (fun _ _ _ h => h) (Or.inl ⟨by kernel_rfl, fun w hSw => by (try dsimp only at hSw); first | (go_simp; done) | (go_simp; rfl)⟩) hk ?_
              try simp only [Act.put, List.setIfInBounds_toArray, List.set_cons_zero, List.set_cons_succ]
              refine wpZ_one (i := 3) (by kernel_rfl) rfl (fun K' hK => ?_)
              rw [if_pos (by kernel_rfl)]
              go_simp
              go_at_call 36
              refine (HOk.out _ HBw.out.drew).mono ?_
              rintro r w4 ⟨lz, pq, cq, rfl, hb4, hOR, hO⟩
              have hb4' := from_drew hb4
              replace hk := cell_later hb4' hk0
              have HO4 := Lib.hid (own_low14 hO (B' := w2.heap.size) HS.out.2.1.size)
              have HOR4 := Lib.hid hOR
              clear hk0 hb4 hO hOR
              refine hK.out _ _ hk ?_
              try simp only [Act.put, List.setIfInBounds_toArray, List.set_cons_zero, List.set_cons_succ]
              clear hK
              refine wpZ_one (i := 4) (by kernel_rfl) rfl (fun K' hK => ?_)
              rw [if_pos (by kernel_rfl)]
              go_simp
              have hb5 := below_one w4 (.cells #[.slice pq lz.length cq, .float .f64 x, .float .f64 x] 63)
              have hbE := below_then hb4' hb5
              replace hk := cell_later hb5 hk
              refine hK.out _ _ hk ?_
              try simp only [Act.put, List.setIfInBounds_toArray, List.set_cons_zero, List.set_cons_succ]
              clear hK
              refine wpZ_one (i := 5) (by kernel_rfl) rfl (fun K' hK => ?_)
              refine append_own_step14 _ (by rfl) _ _ _ (by rfl) w2.heap.size 63 j0 (.agg #[.slice none 0 0, .float .f64 0, .float .f64 0]) 3 40 Tryz.underlying39 hj hy0 hy1 hy2 zcells_real (by decide) _ rs.length (cellsR rs) (by rfl) (own_keep HS.out.2.2.2.2.1.1 hbE) ⟨w4.heap.size, 0, none⟩ 1 1 [.slice pq lz.length cq, .float .f64 x, .float .f64 x] (by rfl) (by rfl) (World.news_of_block (heap_alloc_new w4 _)) (by intro u hu; simp at hu; rcases hu with rfl | rfl | rfl <;> rfl) (by have := HRl.out; have := HSz.out.2.2.2; unfold maxLen; omega) (by have := HRl.out; have := HSz.out.2.2.2; omega) (by have h1 := hbE.size; have h2 := HS.out.2.1.size; omega) ?_
              intro v' w9 hown hgrow
              have hRE := HS.out.2.2.2.2.1.below hbE
              have hWE := HS.out.2.2.2.1.below hbE
              have HR9 := Lib.hid (RsOwn.push (x := ⟨lz, x, x⟩) hRE (own_keep HO4.out hb5) hown hgrow)
              have HW9 := Lib.hid (hWE.apart hRE.1 (by decide) (by decide) hgrow)
              have hCE := (hbE.block _ HCl.out).trans HS.out.2.2.1
              have HC9 := Lib.hid (box_stay hCE hRE.1 (by decide) hgrow)
              have HB9 := Lib.hid (Below.grown (HS.out.2.1.trans (hbE.mono HS.out.2.1.size)) hgrow (by have h1 := hbE.size; have h2 := HS.out.2.1.size; omega) (fun gg hg => (World.ownsRow.lt HS.out.2.2.2.2.1.1 gg hg).1))
              obtain ⟨⟨s0, s1, s2, s3⟩, sf⟩ := box_reads HC9.out
              replace hk := s3
              have HJl := Lib.hid HS.out.2.2.2.2.2
              clear hWE hRE hCE hbE hb5 hb4' HS
              obtain ⟨pv', cv', rfl⟩ := own_any14 hown
              clear hown hgrow
              refine hK.out _ _ hk ?_
              try simp only [Act.put, List.setIfInBounds_toArray]
              clear hK
              refine wpZ_take (i := 6) (oi := { dst := some 75, op := _, type := _, pos := _, after := _, guard := _ }) (v := .pointer (some ⟨w2.heap.size, 3, none⟩)) rfl (by kernel_rfl) (by kernel_rfl) (by kernel_rfl) (by kernel_rfl) (fun _ _ _ h => h) (Or.inl ⟨by kernel_rfl, fun w hSw => by (try dsimp only at hSw); first | (go_simp; done) | (go_simp; rfl)⟩) hk ?_
              try simp only [Act.put]
              refine wpZ_last (by kernel_rfl) rfl (fun K' hK => ?_)
              rw [if_pos (by kernel_rfl)]
              go_simp
              refine hK.out _ _ ?_
              try simp only [Act.put, List.setIfInBounds_toArray, List.set_cons_zero, List.set_cons_succ]
              clear hK
              refine wpZ_done (by kernel_rfl) ?_ _
              have HC12 := Lib.hid (box_set3 (u := .slice pv' (rs.length + 1) cv') HC9.out)
              have HW12 := Lib.hid (HW9.out.setbox (j := 3) (u := .slice pv' (rs.length + 1) cv') HC9.out (by decide) (by decide))
              have HR12 := Lib.hid (HR9.out.setbox (j := 3) (u := .slice pv' (rs.length + 1) cv') HC9.out (by decide) (by decide))
              have HB12 := Lib.hid (HB9.out.setCell (p := ⟨w2.heap.size, 3, none⟩) (Nat.le_refl _) (.slice pv' (rs.length + 1) cv'))
              generalize w9.setCell ⟨w2.heap.size, 3, none⟩ (.slice pv' (rs.length + 1) cv') = w12 at *
              clear hk s0 s1 s2 s3 sf
              go_wp2_with fail
              go_roundw
              case rel => exact ⟨k + 1, _, rs ++ [(.slice pq lz.length cq, ⟨lz, x, x⟩)], hle.out, by go_num, Lib.hid ⟨by simp [HRl.out], HB12.out, HC12.out, HW12.out, HR12.out, fun j hj => snoc_re HRl.out hj (fun e => HJl.out j e) (fun e => by subst e; rw [HXk.out]; exact HOR4.out)⟩⟩
              case measure => simp [intOf]; omega
            · have : k = f.ns.length := by omega
              subst this
              have hzz := (HS.out.2.1.block _ hR2).trans HZ2.out
              obtain ⟨⟨q0, q1, q2, q3⟩, zf⟩ := box_reads hzz
              obtain ⟨⟨s0, s1, s2, s3⟩, -⟩ := box_reads HS.out.2.2.1
              have hS := set4_box (k' := K) (n' := 1) (I' := .slice pv ps.length cv) (N' := .slice pv2 rs.length cv2) hzz
              have hB := set4_below (R := w.heap.size + 1 + 1) (k' := K) (n' := 1) (I' := .slice pv ps.length cv) (N' := .slice pv2 rs.length cv2) HBw.out (by omega)
              have hW := set4_ws (k' := K) (n' := 1) (I' := .slice pv ps.length cv) (N' := .slice pv2 rs.length cv2) hzz (by decide) (by decide) HS.out.2.2.2.1
              have hR := set4_rs (k' := K) (n' := 1) (I' := .slice pv ps.length cv) (N' := .slice pv2 rs.length cv2) hzz (by decide) (by decide) HS.out.2.2.2.2.1
              unfold set4 at hS hB hW hR
              have HS9 := Lib.hid hS
              have HB9 := Lib.hid hB
              have HW9 := Lib.hid hW
              have HR9 := Lib.hid hR
              have HF := Lib.hid (HOC.out ⟨K, 1, ps.map Prod.snd, rs.map Prod.snd⟩ rfl rfl (by simp [HPs.out]) (by simp [HS.out.1]) HJW.out HS.out.2.2.2.2.2)
              clear hS hB hW hR hzz HS hk hlk
              go_wp2_with fail
              obtain ⟨⟨r0, r1, r2, r3⟩, -⟩ := box_reads HS9.out
              exact bodyPost_ret (v := .tuple #[CeV ⟨K, 1, ps.map Prod.snd, rs.map Prod.snd⟩ (.slice pv ps.length cv) (.slice pv2 rs.length cv2), .int .i64 0]) (by simp [results, Tryz.results11, go_sem, r0, r1, r2, r3]) rfl ⟨_, _, _, by rw [HMn.out]; rfl, ⟨HW9.out.wholes, HR9.out.reals⟩, fun _ => HF.out, fun q => absurd HMn.out q, HB9.out⟩
end Go.Proofs.YtigikgphipebiaaGreatDoor
