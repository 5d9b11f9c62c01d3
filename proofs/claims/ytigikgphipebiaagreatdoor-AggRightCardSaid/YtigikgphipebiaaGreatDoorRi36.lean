/- Contracts that the law leans on, pruned and merged: Facm. -/
import Derived.Test.YtigikgphipebiaaGreatDoorRi29
import Derived.Test.YtigikgphipebiaaGreatDoorRi32
import Derived.Test.YtigikgphipebiaaGreatDoorRi33
import Derived.Test.YtigikgphipebiaaGreatDoorRi35
/- Layer 12: the chapter's example. -/
namespace Go.Proofs.YtigikgphipebiaaGreatDoor
set_option maxRecDepth 100000
open Go.RowKit
set_option linter.unusedVariables false
theorem sch_fact (w : World) (D I M V C J N : Value) (W : World) (hW : (w.alloc (SchO D I M V)).alloc (FaO C J N) = W) :
    Below w.heap.size w W ∧ Box W w.heap.size D I M V ∧ FBox W (w.heap.size + 1) C J N := by
  subst hW
  have hz : (w.alloc (SchO D I M V)).heap.size = w.heap.size + 1 := by simp
  have k2 := fbox_new (w.alloc (SchO D I M V)) C J N
  rw [hz] at k2
  exact ⟨below_then (below_one _ _) (below_one _ _), (box_new w D I M V).below (below_one _ _), k2⟩
theorem fits_len {S : Sc} {f : Fa} (h : f.cs.length ≠ S.ds.length ∨ f.is.length ≠ S.is.length ∨ f.ns.length ≠ S.ns.length) : ((fitsL S f : Nat) : Int) = 3 := by
  unfold fitsL; rw [if_pos h]; rfl
theorem fits_in {S : Sc} {f : Fa} (h1 : f.cs.length = S.ds.length) (h2 : f.is.length = S.is.length) (h3 : f.ns.length = S.ns.length) : fitsL S f = if codB S.ds f.cs = true then 0 else 2 := by
  unfold fitsL; rw [if_neg (by omega)]
theorem fits_bad {S : Sc} {f : Fa} (h1 : f.cs.length = S.ds.length) (h2 : f.is.length = S.is.length) (h3 : f.ns.length = S.ns.length) {k : Nat} (hk : k < f.cs.length) (h : codAt S.ds f.cs k = false) : ((fitsL S f : Nat) : Int) = 2 := by
  rw [fits_in h1 h2 h3, if_neg (by rw [cod_bad hk h]; decide)]; rfl
theorem fits_good {S : Sc} {f : Fa} (h1 : f.cs.length = S.ds.length) (h2 : f.is.length = S.is.length) (h3 : f.ns.length = S.ns.length) (h : ∀ j, j < f.cs.length → codAt S.ds f.cs j = true) : ((fitsL S f : Nat) : Int) = 0 := by
  rw [fits_in h1 h2 h3, if_pos (cod_good h)]; rfl
theorem cod_lt {ds : List (ByteArray × Int)} {cs : List Int} {k : Nat} (h : cs.getD k 0 < 0) : codAt ds cs k = false := by
  unfold codAt; rw [decide_eq_false (by omega)]; rfl
theorem cod_ge {ds : List (ByteArray × Int)} {cs : List Int} {k : Nat} (h : dz ds k ≤ cs.getD k 0) : codAt ds cs k = false := by
  unfold codAt; rw [decide_eq_false (p := cs.getD k 0 < dz ds k) (by omega)]; simp
theorem cod_ok {ds : List (ByteArray × Int)} {cs : List Int} {k : Nat} (h0 : ¬ cs.getD k 0 < 0) (h : ¬ dz ds k ≤ cs.getD k 0) : codAt ds cs k = true := by
  unfold codAt; rw [decide_eq_true (by omega), decide_eq_true (p := cs.getD k 0 < dz ds k) (by omega)]; rfl
theorem upto_next {P : Nat → Prop} {k : Nat} (h : ∀ j, j < k → P j) (hk : P k) : ∀ j, j < k + 1 → P j := fun j hj => if h0 : j < k then h j h0 else by
  have e : j = k := by omega
  rw [e]; exact hk
set_option maxHeartbeats 8000000 in
theorem pfault_any (w : World) (D I M V C J N : Value) (S : Sc) (f : Fa) (h : Sch4 w D I M V S) (h' : Fact3 w C J N f) (hf : FaWf f) :
    Calls Tryz.prog 92 #[SchV D I M V, FactV C J N] w fun e w' => e = .returned (.int .i64 (fitsL S f : Nat)) ∧ Below w.heap.size w w' := by
  obtain ⟨W, hW⟩ : ∃ W, (w.alloc (SchO D I M V)).alloc (FaO C J N) = W := ⟨_, rfl⟩
  obtain ⟨hb, hx, hx'⟩ := sch_fact w D I M V C J N W hW
  have HB := Lib.hid hb
  have HX := Lib.hid (And.intro hx hx')
  obtain ⟨⟨a, c, rfl⟩, ⟨a2, c2, rfl⟩, ⟨a3, c3, rfl⟩, a4, c4, rfl⟩ := h.slices
  obtain ⟨⟨b, d, rfl⟩, ⟨b2, d2, rfl⟩, b3, d3, rfl⟩ := h'.slices
  obtain ⟨x0, x1, x2, x3⟩ := hx.reads
  obtain ⟨y0, y1, y2⟩ := hx'.reads
  by_cases n1 : f.cs.length = S.ds.length
  · by_cases n2 : f.is.length = S.is.length
    · by_cases n3 : f.ns.length = S.ns.length
      · obtain ⟨a', cap', e', -, -, h3⟩ := h.d.below hb
        injection e' with e1 e2 e3
        subst e1 e3
        have HC := Lib.hid h3
        clear h3 e2
        obtain ⟨a', cap', e', -, h3⟩ := h'.c.below hb
        injection e' with e1 e2 e3
        subst e1 e3
        have HC' := Lib.hid h3
        clear h3 e2
        have HY := Lib.hid (fun h => fits_good n1 n2 n3 h)
        have HE := Lib.hid (fun k hk h => fits_bad n1 n2 n3 (k := k) hk h)
        have HQ := Lib.hid n1
        have hl := hf.l.1
        rw [n1] at HX y0 hW ⊢
        rw [n2] at HX y1 hW ⊢
        rw [n3] at HX y2 hW ⊢
        rw [n1] at HC' HY hl
        clear h h' hb hx hx' hf n1 n2 n3
        generalize ((fitsL S f : Nat) : Int) = R at *
        go_enter Tryz.func92, Tryz.ntmps92
        go_wp2_with fail
        clear x0 x1 x2 x3 y0 y1 y2 hW
        go_loopw [35] (fun i wr => ∃ k : Nat, k ≤ S.ds.length ∧ i = .int .i64 k ∧ Hid (Drawn W wr) ∧ Hid (∀ j, j < k → codAt S.ds f.cs j = true)) (fun i _ => S.ds.length - (intOf i).toNat)
        case atStart => exact ⟨0, Nat.zero_le _, rfl, Lib.hid (Drawn.refl _), Lib.hid (fun j hj => by omega)⟩
        case round =>
          obtain ⟨k, hk, rfl, HD, HJ⟩ := hrel
          obtain ⟨x0, x1, x2, x3⟩ := (HX.out.1.below HD.out.below).reads
          obtain ⟨y0, y1, y2⟩ := (HX.out.2.below HD.out.below).reads
          by_cases hlk : k < S.ds.length
          · have hlk' : (k : Int) < (S.ds.length : Int) := by omega
            have HK2 := Lib.hid (show k < f.cs.length by rw [HQ.out]; exact hlk)
            rcases HC.out with h3 | ⟨bb, off, rfl, hlt, hc⟩
            · rw [h3] at hlk; simp at hlk
            rcases HC'.out with h3 | ⟨bb', off', rfl, hlt', hc'⟩
            · have hn := HK2.out; rw [h3] at hn; simp at hn
            have hx := (HD.out.below.cell (p := ⟨bb, off + k * 2 + 1, none⟩) hlt).trans (hc k hlk).2
            have hx' := (HD.out.below.cell (p := ⟨bb', off' + k, none⟩) hlt').trans (hc' k hlk)
            have HN := Lib.hid (fun n => HD.out.next n)
            have HE2 := Lib.hid (fun h => HE.out k HK2.out h)
            clear hc hc'
            by_cases c1 : f.cs.getD k 0 < 0
            · have hR := HE2.out (cod_lt c1)
              subst hR
              have e1 : decide (f.cs.getD k 0 < 0) = true := decide_eq_true c1
              generalize f.cs.getD k 0 = x at hx' c1 e1
              generalize dz S.ds k = z at hx
              go_wp2_with fail
              go_ret
              exact ⟨rfl, below_then HB.out HD.out.below⟩
            · by_cases c2 : dz S.ds k ≤ f.cs.getD k 0
              · have hR := HE2.out (cod_ge c2)
                subst hR
                have e1 : decide (f.cs.getD k 0 < 0) = false := decide_eq_false c1
                have e2 : decide (dz S.ds k ≤ f.cs.getD k 0) = true := decide_eq_true c2
                generalize f.cs.getD k 0 = x at hx' c1 e1 c2 e2
                generalize dz S.ds k = z at hx c2 e2
                go_wp2_with fail
                go_ret
                exact ⟨rfl, below_then HB.out HD.out.below⟩
              · have HJ2 := Lib.hid (upto_next HJ.out (cod_ok c1 c2))
                have e1 : decide (f.cs.getD k 0 < 0) = false := decide_eq_false c1
                have e2 : decide (dz S.ds k ≤ f.cs.getD k 0) = false := decide_eq_false c2
                generalize f.cs.getD k 0 = x at hx' c1 e1 c2 e2
                generalize dz S.ds k = z at hx c2 e2
                have HD2 := HD
                go_wp2_with fail
                go_roundw
                case rel => exact ⟨k + 1, by omega, by go_num, HD2, HJ2⟩
                case measure => simp [intOf]; omega
          · have hke : k = S.ds.length := by omega
            subst hke
            have hR := HY.out HJ.out
            subst hR
            go_wp2_with fail
            go_ret
            exact ⟨rfl, below_then HB.out HD.out.below⟩
      · rw [fits_len (.inr (.inr n3))]
        have e1 : ((f.cs.length : Int) != (S.ds.length : Int)) = false := by rw [n1]; simp
        have e2 : ((f.is.length : Int) != (S.is.length : Int)) = false := by rw [n2]; simp
        have e3 : ((f.ns.length : Int) != (S.ns.length : Int)) = true := by simp; omega
        clear h h' hb hx hx' hf n1 n2 n3
        go_enter Tryz.func92, Tryz.ntmps92
        go_wp2_with fail
        go_ret
        exact ⟨rfl, HB.out⟩
    · rw [fits_len (.inr (.inl n2))]
      have e1 : ((f.cs.length : Int) != (S.ds.length : Int)) = false := by rw [n1]; simp
      have e2 : ((f.is.length : Int) != (S.is.length : Int)) = true := by simp; omega
      clear h h' hb hx hx' hf n1 n2
      go_enter Tryz.func92, Tryz.ntmps92
      go_wp2_with fail
      go_ret
      exact ⟨rfl, HB.out⟩
  · rw [fits_len (.inl n1)]
    have e1 : ((f.cs.length : Int) != (S.ds.length : Int)) = true := by simp; omega
    clear h h' hb hx hx' hf n1
    go_enter Tryz.func92, Tryz.ntmps92
    go_wp2_with fail
    go_ret
    exact ⟨rfl, HB.out⟩
set_option maxHeartbeats 4000000 in
theorem fcheck_any (w : World) (D I M V C J N : Value) (S : Sc) (f : Fa) (h : Sch4 w D I M V S) (hw : SWf S) (h' : Fact3 w C J N f) (hf : FaWf f) :
    Calls Tryz.prog 33 #[SchV D I M V, FactV C J N] w fun e w' => e = .returned (.int .i64 (if checkL S = 0 then (fitsL S f : Nat) else 1)) ∧ Below w.heap.size w w' := by
  obtain ⟨W, hW⟩ : ∃ W, (w.alloc (SchO D I M V)).alloc (FaO C J N) = W := ⟨_, rfl⟩
  obtain ⟨hb, hx, hx'⟩ := sch_fact w D I M V C J N W hW
  have HB := Lib.hid hb
  have HX := Lib.hid (And.intro hx hx')
  have HC := Lib.hid (check_any W D I M V S (h.below hb) hw)
  have HF := Lib.hid (fun w1 (hb1 : Below W.heap.size W w1) => pfault_any w1 D I M V C J N S f (h.below (below_then hb hb1)) (h'.below (below_then hb hb1)) hf)
  obtain ⟨⟨a, c, rfl⟩, ⟨a2, c2, rfl⟩, ⟨a3, c3, rfl⟩, a4, c4, rfl⟩ := h.slices
  obtain ⟨⟨b, d, rfl⟩, ⟨b2, d2, rfl⟩, b3, d3, rfl⟩ := h'.slices
  obtain ⟨x0, x1, x2, x3⟩ := hx.reads
  obtain ⟨y0, y1, y2⟩ := hx'.reads
  by_cases hc : checkL S = 0
  · rw [if_pos hc]
    rw [hc] at HC
    generalize ((fitsL S f : Nat) : Int) = R at *
    clear h h' hb hx hx' hf hc hw
    go_enter Tryz.func33, Tryz.ntmps33
    go_wp2_with fail
    refine (HC.out).mono ?_; rintro e w1 ⟨rfl, hb1⟩
    have HB1 := Lib.hid hb1
    clear x0 x1 x2 x3 y0 y1 y2 hb1 hW
    obtain ⟨x0, x1, x2, x3⟩ := (HX.out.1.below HB1.out).reads
    obtain ⟨y0, y1, y2⟩ := (HX.out.2.below HB1.out).reads
    go_wp2_with fail
    refine (HF.out _ HB1.out).mono ?_; rintro e w2 ⟨rfl, hb2⟩
    have HB2 := Lib.hid (below_then HB.out (below_then HB1.out hb2))
    clear hb2
    go_wp2_with fail
    go_ret
    exact ⟨rfl, HB2.out⟩
  · rw [if_neg hc]
    have hc2 : ((checkL S : Int) != 0) = true := by simp; omega
    generalize (checkL S : Int) = ck at *
    clear h h' hb hx hx' hf hc hw
    go_enter Tryz.func33, Tryz.ntmps33
    go_wp2_with fail
    refine (HC.out).mono ?_; rintro e w1 ⟨rfl, hb1⟩
    have HB1 := Lib.hid (below_then HB.out hb1)
    clear hb1
    go_wp2_with fail
    go_ret
    exact ⟨rfl, HB1.out⟩
set_option maxRecDepth 100000
open Go.RowKit
set_option linter.unusedVariables false
theorem encU_three {x : Nat} (h : x ≤ 4096) : (encU x).length ≤ 3 := by
  have h1 := (encU_len (x := x) (by omega)).1
  have h2 := bytesN_is x (by omega)
  rcases h2.2 with h3 | h3
  · omega
  · by_cases h4 : bytesN x ≤ 2
    · omega
    · have : 256 ^ 2 ≤ 256 ^ (bytesN x - 1) := Nat.pow_le_pow_right (by decide) (by omega)
      omega
theorem flat_snoc {α : Type} {e : α → List Int} {l : List α} {k : Nat} (hk : k < l.length) : (l.take (k + 1)).flatMap e = (l.take k).flatMap e ++ e l[k] := by
  rw [List.take_add_one, List.getElem?_eq_getElem hk, List.flatMap_append]
  simp
theorem flat_max {α : Type} {e : α → List Int} {n : Nat} {l : List α} (h : ∀ x ∈ l, (e x).length ≤ n) : ∀ k, ((l.take k).flatMap e).length ≤ n * k
  | 0 => by simp
  | k + 1 => by
    have ih := flat_max h k
    by_cases hk : k < l.length
    · rw [flat_snoc hk, List.length_append]
      have := h _ (List.getElem_mem hk)
      rw [Nat.mul_add, Nat.mul_one]; omega
    · rw [List.take_of_length_le (by omega)]
      rw [List.take_of_length_le (by omega)] at ih
      exact Nat.le_trans ih (Nat.mul_le_mul_left _ (by omega))
theorem flat_max' {α : Type} {e : α → List Int} {n : Nat} {l : List α} (h : ∀ x ∈ l, (e x).length ≤ n) : (l.flatMap e).length ≤ n * l.length := by
  have := flat_max h l.length
  rwa [List.take_length] at this
theorem eU_max {l : List Int} (h : ∀ x ∈ l, 0 ≤ x ∧ x ≤ 4096) : ∀ x ∈ l, (eU x).length ≤ 3 := fun x hx => by
  have := h x hx
  exact encU_three (by omega)
theorem eI_max {l : List Int} (h : ∀ x ∈ l, -9223372036854775808 ≤ x ∧ x ≤ 9223372036854775807) : ∀ x ∈ l, (encI x).length ≤ 9 := fun x hx => (encI_len (h x hx).1 (h x hx).2).2
theorem eN_max {l : List Nat} : ∀ x ∈ l, (eN x).length ≤ 8 := fun x _ => by unfold eN encF; rw [bigN_len]; exact Nat.le_refl _
/-- What stands in memory while facts are put: the writer, the variable that the closure holds. -/
structure Pv (w1 wr : World) (bs : List Int) : Prop where
  o : OutB wr w1.heap.size bs
  m : wr.cell? ⟨w1.heap.size + 1, 0, none⟩ = some (.pointer (some ⟨w1.heap.size, 0, none⟩))
  g : Below w1.heap.size w1 wr
theorem Pv.call {w1 wr w' : World} {bs bs' : List Int} (h : Pv w1 wr bs) (ho : OutB w' w1.heap.size bs') (hg : wr.grownBy w' (some w1.heap.size)) : Pv w1 w' bs' :=
  ⟨ho, cell_grown hg h.m (by show w1.heap.size + 1 ≠ _; omega), below_grown h.g hg (Nat.le_refl _)⟩
theorem Pv.below {w1 wr w' : World} {bs : List Int} (h : Pv w1 wr bs) (hb : Below wr.heap.size wr w') : Pv w1 w' bs :=
  ⟨h.o.below hb, cell_hold hb h.m, below_then h.g hb⟩
/-- A fact of a batch is as small as the schema says. -/
theorem fit_small {S : Sc} {f : Fa} (hc : checkL S = 0) (hf : FaWf f) (h : fitsL S f = 0) : (∀ x ∈ f.cs, 0 ≤ x ∧ x ≤ 4096) ∧ f.cs.length ≤ 6 ∧ f.is.length ≤ 3 ∧ f.ns.length ≤ 2 := by
  have hn := cnt_iff.1 (check_cnt' hc).1
  have h1 := fits_ok h
  have h2 := fit_of_fits hc hf.i hf.n h
  refine ⟨fun x hx => ?_, by omega, by omega, by omega⟩
  obtain ⟨k, hk⟩ := List.getElem?_of_mem hx
  have := h2.c k x hk
  omega
set_option maxRecDepth 100000
open Go.RowKit
set_option linter.unusedVariables false
/-- A fact that a batch may hold. -/
structure Small (f : Fa) : Prop where
  wf : FaWf f
  c : ∀ x ∈ f.cs, 0 ≤ x ∧ x ≤ 4096
  l : f.cs.length ≤ 6 ∧ f.is.length ≤ 3 ∧ f.ns.length ≤ 2
theorem Small.le {f : Fa} (h : Small f) : (encFa f).length ≤ 61 := by
  have k1 := flat_max' (eU_max h.c)
  have k2 := flat_max' (eI_max h.wf.i)
  have k3 := flat_max' (eN_max (l := f.ns))
  have := h.l
  unfold encFa
  simp only [List.length_append]
  omega
theorem int_at {w : World} {k : IntKind} {a : Option Addr} {n cap : Nat} {xs : List Int} {j : Nat} (h : Ints k w (.slice a n cap) xs) (hj : j < xs.length) : ∃ b off, a = some ⟨b, off, none⟩ ∧ b < w.heap.size ∧ w.cell? ⟨b, off + j, none⟩ = some (.int k (xs.getD j 0)) := by
  obtain ⟨a', cap', e', -, h3⟩ := h
  injection e' with e1 e2 e3
  subst e1
  rcases h3 with h3 | ⟨b, off, rfl, hlt, hc⟩
  · rw [h3] at hj; simp at hj
  · exact ⟨b, off, rfl, hlt, hc j hj⟩
theorem fl_at {w : World} {a : Option Addr} {n cap : Nat} {xs : List Nat} {j : Nat} (h : Fls w (.slice a n cap) xs) (hj : j < xs.length) : ∃ b off, a = some ⟨b, off, none⟩ ∧ b < w.heap.size ∧ w.cell? ⟨b, off + j, none⟩ = some (.float .f64 (xs.getD j 0)) := by
  obtain ⟨a', cap', e', -, h3⟩ := h
  injection e' with e1 e2 e3
  subst e1
  rcases h3 with h3 | ⟨b, off, rfl, hlt, hc⟩
  · rw [h3] at hj; simp at hj
  · exact ⟨b, off, rfl, hlt, hc j hj⟩
theorem getD_all {α : Type} {P : α → Prop} {l : List α} {d : α} (h : ∀ x ∈ l, P x) {k : Nat} (hk : k < l.length) : P (l.getD k d) := by
  have e : l.getD k d = l[k] := by simp [List.getD, hk]
  rw [e]; exact h _ (List.getElem_mem hk)
set_option maxRecDepth 100000
open Go.RowKit
set_option linter.unusedVariables false
def exT : Sc := ⟨[(⟨#[97]⟩, 2)], [⟨#[109]⟩], [], []⟩
theorem ext_wf : SWf exT := by
  refine ⟨?_, ?_, ?_, ?_⟩
  · intro d h
    simp only [exT, List.mem_cons, List.not_mem_nil, or_false] at h
    subst h; decide
  · intro s h
    simp only [exT, List.mem_cons, List.not_mem_nil, or_false] at h
    subst h; decide
  · intro s h; simp [exT] at h
  · intro v h; simp [exT] at h
theorem ext_dims (w : World) (N : Nat) (T : TypeId) (hN : w.heap.size = N) : Dims (w.alloc (.cells #[.string ⟨#[97]⟩, .int .i64 2] T)) (.slice (some ⟨N, 0, none⟩) 1 1) exT.ds := by
  subst hN
  refine ⟨_, _, rfl, by simp [exT], by simp [exT], .inr ⟨w.heap.size, 0, rfl, by simp, fun i hi => ?_⟩⟩
  have h2 : i < 1 := hi
  obtain rfl : i = 0 := by omega
  exact ⟨by simp [go_sem, dn, exT], by simp [go_sem, dz, exT]⟩
end Go.Proofs.YtigikgphipebiaaGreatDoor
