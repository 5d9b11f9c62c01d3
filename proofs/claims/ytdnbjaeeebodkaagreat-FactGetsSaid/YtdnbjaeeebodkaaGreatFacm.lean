/- Layer 12: the chapter's example. -/
import Derived.Test.YtdnbjaeeebodkaaGreatFaci
import Derived.Test.YtdnbjaeeebodkaaGreatSchk
import Derived.Test.YtdnbjaeeebodkaaGreatScif
import Derived.Test.YtdnbjaeeebodkaaGreatSchm
namespace Go.Proofs.YtdnbjaeeebodkaaGreat
set_option maxRecDepth 100000
open Go.RowKit
set_option linter.unusedVariables false
theorem sch_fact (w : World) (D I M V C J N : Value) (W : World) (hW : (w.alloc (SchO D I M V)).alloc (FaO C J N) = W) :
    Below w.heap.size w W ∧ Box W w.heap.size D I M V ∧ FBox W (w.heap.size + 1) C J N := by
  subst hW
  have hz : (w.alloc (SchO D I M V)).heap.size = w.heap.size + 1 := by simp
  have k2 := fbox_new (w.alloc (SchO D I M V)) C J N
  rw [hz] at k2
  exact ⟨below_then (below_one _ _) (below_one _ _), (box_new w D I M V).below (below_one _ _), k2⟩
theorem fits_len {S : Sc} {f : Fa} (h : f.cs.length ≠ S.ds.length ∨ f.is.length ≠ S.is.length ∨ f.ns.length ≠ S.ns.length) : ((fitsL S f : Nat) : Int) = 3 := by
  unfold fitsL; rw [if_pos h]; rfl
theorem fits_in {S : Sc} {f : Fa} (h1 : f.cs.length = S.ds.length) (h2 : f.is.length = S.is.length) (h3 : f.ns.length = S.ns.length) : fitsL S f = if codB S.ds f.cs = true then 0 else 2 := by
  unfold fitsL; rw [if_neg (by omega)]
theorem fits_bad {S : Sc} {f : Fa} (h1 : f.cs.length = S.ds.length) (h2 : f.is.length = S.is.length) (h3 : f.ns.length = S.ns.length) {k : Nat} (hk : k < f.cs.length) (h : codAt S.ds f.cs k = false) : ((fitsL S f : Nat) : Int) = 2 := by
  rw [fits_in h1 h2 h3, if_neg (by rw [cod_bad hk h]; decide)]; rfl
theorem fits_good {S : Sc} {f : Fa} (h1 : f.cs.length = S.ds.length) (h2 : f.is.length = S.is.length) (h3 : f.ns.length = S.ns.length) (h : ∀ j, j < f.cs.length → codAt S.ds f.cs j = true) : ((fitsL S f : Nat) : Int) = 0 := by
  rw [fits_in h1 h2 h3, if_pos (cod_good h)]; rfl
theorem cod_lt {ds : List (ByteArray × Int)} {cs : List Int} {k : Nat} (h : cs.getD k 0 < 0) : codAt ds cs k = false := by
  unfold codAt; rw [decide_eq_false (by omega)]; rfl
theorem cod_ge {ds : List (ByteArray × Int)} {cs : List Int} {k : Nat} (h : dz ds k ≤ cs.getD k 0) : codAt ds cs k = false := by
  unfold codAt; rw [decide_eq_false (p := cs.getD k 0 < dz ds k) (by omega)]; simp
theorem cod_ok {ds : List (ByteArray × Int)} {cs : List Int} {k : Nat} (h0 : ¬ cs.getD k 0 < 0) (h : ¬ dz ds k ≤ cs.getD k 0) : codAt ds cs k = true := by
  unfold codAt; rw [decide_eq_true (by omega), decide_eq_true (p := cs.getD k 0 < dz ds k) (by omega)]; rfl
theorem upto_next {P : Nat → Prop} {k : Nat} (h : ∀ j, j < k → P j) (hk : P k) : ∀ j, j < k + 1 → P j := fun j hj => if h0 : j < k then h j h0 else by
  have e : j = k := by omega
  rw [e]; exact hk
set_option maxHeartbeats 8000000 in
theorem pfault_any (w : World) (D I M V C J N : Value) (S : Sc) (f : Fa) (h : Sch4 w D I M V S) (h' : Fact3 w C J N f) (hf : FaWf f) :
    Calls Tryz.prog 65 #[SchV D I M V, FactV C J N] w fun e w' => e = .returned (.int .i64 (fitsL S f : Nat)) ∧ Below w.heap.size w w' := by
  obtain ⟨W, hW⟩ : ∃ W, (w.alloc (SchO D I M V)).alloc (FaO C J N) = W := ⟨_, rfl⟩
  obtain ⟨hb, hx, hx'⟩ := sch_fact w D I M V C J N W hW
  have HB := Lib.hid hb
  have HX := Lib.hid (And.intro hx hx')
  obtain ⟨⟨a, c, rfl⟩, ⟨a2, c2, rfl⟩, ⟨a3, c3, rfl⟩, a4, c4, rfl⟩ := h.slices
  obtain ⟨⟨b, d, rfl⟩, ⟨b2, d2, rfl⟩, b3, d3, rfl⟩ := h'.slices
  obtain ⟨x0, x1, x2, x3⟩ := hx.reads
  obtain ⟨y0, y1, y2⟩ := hx'.reads
  by_cases n1 : f.cs.length = S.ds.length
  · by_cases n2 : f.is.length = S.is.length
    · by_cases n3 : f.ns.length = S.ns.length
      · obtain ⟨a', cap', e', -, -, h3⟩ := h.d.below hb
        injection e' with e1 e2 e3
        subst e1 e3
        have HC := Lib.hid h3
        clear h3 e2
        obtain ⟨a', cap', e', -, h3⟩ := h'.c.below hb
        injection e' with e1 e2 e3
        subst e1 e3
        have HC' := Lib.hid h3
        clear h3 e2
        have HY := Lib.hid (fun h => fits_good n1 n2 n3 h)
        have HE := Lib.hid (fun k hk h => fits_bad n1 n2 n3 (k := k) hk h)
        have HQ := Lib.hid n1
        have hl := hf.l.1
        rw [n1] at HX y0 hW ⊢
        rw [n2] at HX y1 hW ⊢
        rw [n3] at HX y2 hW ⊢
        rw [n1] at HC' HY hl
        clear h h' hb hx hx' hf n1 n2 n3
        generalize ((fitsL S f : Nat) : Int) = R at *
        go_enter Tryz.func65, Tryz.ntmps65
        go_wp2_with fail
        clear x0 x1 x2 x3 y0 y1 y2 hW
        go_loopw [35] (fun i wr => ∃ k : Nat, k ≤ S.ds.length ∧ i = .int .i64 k ∧ Hid (Drawn W wr) ∧ Hid (∀ j, j < k → codAt S.ds f.cs j = true)) (fun i _ => S.ds.length - (intOf i).toNat)
        case atStart => exact ⟨0, Nat.zero_le _, rfl, Lib.hid (Drawn.refl _), Lib.hid (fun j hj => by omega)⟩
        case round =>
          obtain ⟨k, hk, rfl, HD, HJ⟩ := hrel
          obtain ⟨x0, x1, x2, x3⟩ := (HX.out.1.below HD.out.below).reads
          obtain ⟨y0, y1, y2⟩ := (HX.out.2.below HD.out.below).reads
          by_cases hlk : k < S.ds.length
          · have hlk' : (k : Int) < (S.ds.length : Int) := by omega
            have HK2 := Lib.hid (show k < f.cs.length by rw [HQ.out]; exact hlk)
            rcases HC.out with h3 | ⟨bb, off, rfl, hlt, hc⟩
            · rw [h3] at hlk; simp at hlk
            rcases HC'.out with h3 | ⟨bb', off', rfl, hlt', hc'⟩
            · have hn := HK2.out; rw [h3] at hn; simp at hn
            have hx := (HD.out.below.cell (p := ⟨bb, off + k * 2 + 1, none⟩) hlt).trans (hc k hlk).2
            have hx' := (HD.out.below.cell (p := ⟨bb', off' + k, none⟩) hlt').trans (hc' k hlk)
            have HN := Lib.hid (fun n => HD.out.next n)
            have HE2 := Lib.hid (fun h => HE.out k HK2.out h)
            clear hc hc'
            by_cases c1 : f.cs.getD k 0 < 0
            · have hR := HE2.out (cod_lt c1)
              subst hR
              have e1 : decide (f.cs.getD k 0 < 0) = true := decide_eq_true c1
              generalize f.cs.getD k 0 = x at hx' c1 e1
              generalize dz S.ds k = z at hx
              go_wp2_with fail
              go_ret
              exact ⟨rfl, below_then HB.out HD.out.below⟩
            · by_cases c2 : dz S.ds k ≤ f.cs.getD k 0
              · have hR := HE2.out (cod_ge c2)
                subst hR
                have e1 : decide (f.cs.getD k 0 < 0) = false := decide_eq_false c1
                have e2 : decide (dz S.ds k ≤ f.cs.getD k 0) = true := decide_eq_true c2
                generalize f.cs.getD k 0 = x at hx' c1 e1 c2 e2
                generalize dz S.ds k = z at hx c2 e2
                go_wp2_with fail
                go_ret
                exact ⟨rfl, below_then HB.out HD.out.below⟩
              · have HJ2 := Lib.hid (upto_next HJ.out (cod_ok c1 c2))
                have e1 : decide (f.cs.getD k 0 < 0) = false := decide_eq_false c1
                have e2 : decide (dz S.ds k ≤ f.cs.getD k 0) = false := decide_eq_false c2
                generalize f.cs.getD k 0 = x at hx' c1 e1 c2 e2
                generalize dz S.ds k = z at hx c2 e2
                have HD2 := HD
                go_wp2_with fail
                go_roundw
                case rel => exact ⟨k + 1, by omega, by go_num, HD2, HJ2⟩
                case measure => simp [intOf]; omega
          · have hke : k = S.ds.length := by omega
            subst hke
            have hR := HY.out HJ.out
            subst hR
            go_wp2_with fail
            go_ret
            exact ⟨rfl, below_then HB.out HD.out.below⟩
      · rw [fits_len (.inr (.inr n3))]
        have e1 : ((f.cs.length : Int) != (S.ds.length : Int)) = false := by rw [n1]; simp
        have e2 : ((f.is.length : Int) != (S.is.length : Int)) = false := by rw [n2]; simp
        have e3 : ((f.ns.length : Int) != (S.ns.length : Int)) = true := by simp; omega
        clear h h' hb hx hx' hf n1 n2 n3
        go_enter Tryz.func65, Tryz.ntmps65
        go_wp2_with fail
        go_ret
        exact ⟨rfl, HB.out⟩
    · rw [fits_len (.inr (.inl n2))]
      have e1 : ((f.cs.length : Int) != (S.ds.length : Int)) = false := by rw [n1]; simp
      have e2 : ((f.is.length : Int) != (S.is.length : Int)) = true := by simp; omega
      clear h h' hb hx hx' hf n1 n2
      go_enter Tryz.func65, Tryz.ntmps65
      go_wp2_with fail
      go_ret
      exact ⟨rfl, HB.out⟩
  · rw [fits_len (.inl n1)]
    have e1 : ((f.cs.length : Int) != (S.ds.length : Int)) = true := by simp; omega
    clear h h' hb hx hx' hf n1
    go_enter Tryz.func65, Tryz.ntmps65
    go_wp2_with fail
    go_ret
    exact ⟨rfl, HB.out⟩
/-- The two numbers of Batch. -/
abbrev PairL (S : Sc) (l : List Fa) : Value := .tuple #[.int .i64 ((batchL S l).1 : Nat), .int .i64 ((batchL S l).2 : Nat)]
theorem pair_no {S : Sc} {l : List Fa} (h : checkL S ≠ 0) : PairL S l = .tuple #[.int .i64 0, .int .i64 1] := by
  unfold PairL batchL; rw [if_pos h]; rfl
theorem pair_many {S : Sc} {l : List Fa} (h : checkL S = 0) (hl : l.length < 1 ∨ 200 < l.length) : PairL S l = .tuple #[.int .i64 0, .int .i64 3] := by
  unfold PairL batchL; rw [if_neg (by omega), if_pos hl]; rfl
theorem pair_bad {S : Sc} {l : List Fa} (h : checkL S = 0) (hl : ¬ (l.length < 1 ∨ 200 < l.length)) {k : Nat} (hk : k < l.length) (hj : ∀ j, j < k → ∀ h : j < l.length, ((fitsL S l[j] : Nat) : Int) = 0) (hb : ((fitsL S l[k] : Nat) : Int) ≠ 0) : PairL S l = .tuple #[.int .i64 k, .int .i64 ((fitsL S l[k] : Nat))] := by
  unfold PairL batchL; rw [if_neg (by omega), if_neg hl, goL_bad hk (fun j h1 h2 => by have := hj j h2 h1; omega) (by omega)]
theorem pair_good {S : Sc} {l : List Fa} (h : checkL S = 0) (hl : ¬ (l.length < 1 ∨ 200 < l.length)) (hj : ∀ j, j < l.length → ∀ h : j < l.length, ((fitsL S l[j] : Nat) : Int) = 0) : PairL S l = .tuple #[.int .i64 0, .int .i64 0] := by
  unfold PairL batchL; rw [if_neg (by omega), if_neg hl, goL_good (fun j h1 => by have := hj j h1 h1; omega)]; rfl
set_option maxHeartbeats 8000000 in
theorem pbatch_any (w : World) (D I M V v : Value) (S : Sc) (l : List Fa) (h : Sch4 w D I M V S) (hw : SWf S) (hv : Facts w v l) (hf : ∀ f ∈ l, FaWf f) :
    Calls Tryz.prog 27 #[SchV D I M V, v] w fun e w' => e = .returned (PairL S l) ∧ Below w.heap.size w w' := by
  have HB := Lib.hid (below_one w (SchO D I M V))
  have HX := Lib.hid (box_new w D I M V)
  have HC := Lib.hid (check_any (w.alloc (SchO D I M V)) D I M V S (h.below HB.out) hw)
  have HF := Lib.hid (fun w1 k (hk : k < l.length) C J N (h1 : Fact3 w C J N l[k]) (hb1 : Below w.heap.size w w1) => pfault_any w1 D I M V C J N S l[k] (h.below hb1) (h1.below hb1) (hf _ (List.getElem_mem hk)))
  obtain ⟨⟨a, c, rfl⟩, ⟨a2, c2, rfl⟩, ⟨a3, c3, rfl⟩, a4, c4, rfl⟩ := h.slices
  obtain ⟨b0, cap, rfl, h1, hmx, h3⟩ := hv
  have HV := Lib.hid h3
  obtain ⟨x0, x1, x2, x3⟩ := HX.out.reads
  clear h3 h1 h
  generalize hW : w.alloc (SchO (.slice a S.ds.length c) (.slice a2 S.is.length c2) (.slice a3 S.ns.length c3) (.slice a4 S.vs.length c4)) = W at *
  by_cases hc : checkL S = 0
  · rw [hc] at HC
    by_cases hl : l.length < 1 ∨ 200 < l.length
    · rw [pair_many hc hl]
      clear hc hw HF hf
      by_cases h0 : l.length = 0
      · have e0 : ((l.length : Int) == 0) = true := by simp [h0]
        clear hl h0
        go_enter Tryz.func27, Tryz.ntmps27
        go_wp2_with fail
        refine (HC.out).mono ?_; rintro e w1 ⟨rfl, hb1⟩
        have HB1 := Lib.hid (below_then HB.out hb1)
        clear hb1
        go_wp2_with fail
        go_ret2
        exact ⟨rfl, HB1.out⟩
      · have e0 : ((l.length : Int) == 0) = false := by rw [beq_eq_false_iff_ne]; omega
        have hq : (200 : Int) < (l.length : Int) := by omega
        have e1 : decide ((200 : Int) < (l.length : Int)) = true := decide_eq_true hq
        clear hq
        clear hl h0
        go_enter Tryz.func27, Tryz.ntmps27
        go_wp2_with fail
        refine (HC.out).mono ?_; rintro e w1 ⟨rfl, hb1⟩
        have HB1 := Lib.hid (below_then HB.out hb1)
        clear hb1
        go_wp2_with fail
        go_ret2
        exact ⟨rfl, HB1.out⟩
    · have HPG := Lib.hid (fun h => pair_good (S := S) (l := l) hc hl h)
      have HPB := Lib.hid (fun k hk h h2 => pair_bad (S := S) (l := l) hc hl (k := k) hk h h2)
      have e0 : ((l.length : Int) == 0) = false := by rw [beq_eq_false_iff_ne]; omega
      have hq : ¬ (200 : Int) < (l.length : Int) := by omega
      have e1 : decide ((200 : Int) < (l.length : Int)) = false := decide_eq_false hq
      clear hq
      clear hl hc hw hf
      generalize PairL S l = P at *
      go_enter Tryz.func27, Tryz.ntmps27
      go_wp2_with fail
      refine (HC.out).mono ?_; rintro e w1 ⟨rfl, hb1⟩
      have HB1 := Lib.hid (And.intro (below_then HB.out hb1) (HX.out.below hb1))
      clear hb1 x0 x1 x2 x3 hW
      go_wp2_with fail
      go_loopw [22] (fun i wr => ∃ k : Nat, k ≤ l.length ∧ i = .int .i64 k ∧ Hid (Below w.heap.size w wr ∧ Box wr w.heap.size (.slice a S.ds.length c) (.slice a2 S.is.length c2) (.slice a3 S.ns.length c3) (.slice a4 S.vs.length c4)) ∧ Hid (∀ j, j < k → ∀ h : j < l.length, ((fitsL S l[j] : Nat) : Int) = 0)) (fun i _ => l.length - (intOf i).toNat)
      case atStart => exact ⟨0, Nat.zero_le _, rfl, HB1, Lib.hid (fun j hj => by omega)⟩
      case round =>
        obtain ⟨k, hk, rfl, HD, HJ⟩ := hrel
        by_cases hlk : k < l.length
        · have hlk' : (k : Int) < (l.length : Int) := by omega
          rcases HV.out with h3 | ⟨b, off, rfl, hlt, hcc⟩
          · rw [h3] at hlk; simp at hlk
          obtain ⟨C, J, N, hx, hf⟩ := hcc k hlk
          obtain ⟨y0, y1, y2⟩ := tri_hold HD.out.1 hx
          have HFk := Lib.hid (fun w1 hb => HF.out w1 k hlk _ _ _ hf hb)
          obtain ⟨⟨pa, pc, rfl⟩, ⟨pa2, pc2, rfl⟩, pa3, pc3, rfl⟩ := hf.slices
          have hb2 := below_one wr (FaO (.slice pa l[k].cs.length pc) (.slice pa2 l[k].is.length pc2) (.slice pa3 l[k].ns.length pc3))
          have HD2 := Lib.hid (And.intro (below_then HD.out.1 hb2) (HD.out.2.below hb2))
          obtain ⟨x0, x1, x2, x3⟩ := HD2.out.2.reads
          have HPk := Lib.hid (fun h => HPB.out k hlk HJ.out h)
          have HJk := Lib.hid (fun (h : ((fitsL S l[k] : Nat) : Int) = 0) => upto_next (P := fun j => ∀ h : j < l.length, ((fitsL S l[j] : Nat) : Int) = 0) HJ.out (fun _ => h))
          clear hcc hx hf hb2
          generalize ((fitsL S l[k] : Nat) : Int) = R at *
          generalize l[k].cs.length = s1 at *
          generalize l[k].is.length = s2 at *
          generalize l[k].ns.length = s3 at *
          go_wp2_with fail
          refine (HFk.out _ HD2.out.1).mono ?_; rintro e w2 ⟨rfl, hb⟩
          have HD3 := Lib.hid (And.intro (below_then HD2.out.1 hb) (HD2.out.2.below hb))
          clear x0 x1 x2 x3 y0 y1 y2 hb
          by_cases hR : R = 0
          · have HJ2 := Lib.hid (HJk.out hR)
            subst hR
            go_wp2_with fail
            go_roundw
            case rel => exact ⟨k + 1, by omega, by go_num, HD3, HJ2⟩
            case measure => simp [intOf]; omega
          · have hP := HPk.out hR
            subst hP
            have hR2 : (R != 0) = true := by simpa using hR
            go_wp2_with fail
            go_ret2
            exact ⟨rfl, HD3.out.1⟩
        · have hke : k = l.length := by omega
          subst hke
          have hP := HPG.out HJ.out
          subst hP
          go_wp2_with fail
          go_ret2
          exact ⟨rfl, HD.out.1⟩
  · rw [pair_no hc]
    have hc2 : ((checkL S : Int) != 0) = true := by simp; omega
    generalize (checkL S : Int) = ck at *
    clear hc hw HF hf
    go_enter Tryz.func27, Tryz.ntmps27
    go_wp2_with fail
    refine (HC.out).mono ?_; rintro e w1 ⟨rfl, hb1⟩
    have HB1 := Lib.hid (below_then HB.out hb1)
    clear hb1
    go_wp2_with fail
    go_ret2
    exact ⟨rfl, HB1.out⟩
set_option maxRecDepth 100000
open Go.RowKit
set_option linter.unusedVariables false
theorem encU_three {x : Nat} (h : x ≤ 4096) : (encU x).length ≤ 3 := by
  have h1 := (encU_len (x := x) (by omega)).1
  have h2 := bytesN_is x (by omega)
  rcases h2.2 with h3 | h3
  · omega
  · by_cases h4 : bytesN x ≤ 2
    · omega
    · have : 256 ^ 2 ≤ 256 ^ (bytesN x - 1) := Nat.pow_le_pow_right (by decide) (by omega)
      omega
theorem flat_snoc {α : Type} {e : α → List Int} {l : List α} {k : Nat} (hk : k < l.length) : (l.take (k + 1)).flatMap e = (l.take k).flatMap e ++ e l[k] := by
  rw [List.take_add_one, List.getElem?_eq_getElem hk, List.flatMap_append]
  simp
theorem flat_max {α : Type} {e : α → List Int} {n : Nat} {l : List α} (h : ∀ x ∈ l, (e x).length ≤ n) : ∀ k, ((l.take k).flatMap e).length ≤ n * k
  | 0 => by simp
  | k + 1 => by
    have ih := flat_max h k
    by_cases hk : k < l.length
    · rw [flat_snoc hk, List.length_append]
      have := h _ (List.getElem_mem hk)
      rw [Nat.mul_add, Nat.mul_one]; omega
    · rw [List.take_of_length_le (by omega)]
      rw [List.take_of_length_le (by omega)] at ih
      exact Nat.le_trans ih (Nat.mul_le_mul_left _ (by omega))
theorem flat_max' {α : Type} {e : α → List Int} {n : Nat} {l : List α} (h : ∀ x ∈ l, (e x).length ≤ n) : (l.flatMap e).length ≤ n * l.length := by
  have := flat_max h l.length
  rwa [List.take_length] at this
theorem eU_max {l : List Int} (h : ∀ x ∈ l, 0 ≤ x ∧ x ≤ 4096) : ∀ x ∈ l, (eU x).length ≤ 3 := fun x hx => by
  have := h x hx
  exact encU_three (by omega)
theorem eI_max {l : List Int} (h : ∀ x ∈ l, -9223372036854775808 ≤ x ∧ x ≤ 9223372036854775807) : ∀ x ∈ l, (encI x).length ≤ 9 := fun x hx => (encI_len (h x hx).1 (h x hx).2).2
theorem eN_max {l : List Nat} : ∀ x ∈ l, (eN x).length ≤ 8 := fun x _ => by unfold eN encF; rw [bigN_len]; exact Nat.le_refl _
theorem outU_b (w : World) (N : Nat) (bs : List Int) (x : Nat) (h : OutB w N bs) (hx : x < 18446744073709551616) (hl : bs.length ≤ 1000000) :
    Calls Tryz.prog 29 #[.pointer (some ⟨N, 0, none⟩), .int .u64 x] w (PutB w N (bs ++ encU x)) := by
  obtain ⟨L, h1, rfl⟩ := h
  refine (outU_any w N L x hx h1 ?_).mono ?_
  · have := (encU_len hx).2
    rw [show catR (encU x :: L) = catR L ++ encU x from rfl, List.length_append]
    omega
  · rintro r w' ⟨rfl, h2, h3⟩
    exact ⟨rfl, ⟨_, h2, rfl⟩, h3⟩
theorem outI_b (w : World) (N : Nat) (bs : List Int) (x : Int) (h : OutB w N bs) (h0 : -9223372036854775808 ≤ x) (h1 : x ≤ 9223372036854775807) (hl : bs.length ≤ 1000000) :
    Calls Tryz.prog 33 #[.pointer (some ⟨N, 0, none⟩), .int .i64 x] w (PutB w N (bs ++ encI x)) := by
  obtain ⟨L, ho, rfl⟩ := h
  refine (outI_any w N L x h0 h1 ho ?_).mono ?_
  · have := (encI_len h0 h1).2
    rw [show catR (encI x :: L) = catR L ++ encI x from rfl, List.length_append]
    omega
  · rintro r w' ⟨rfl, h2, h3⟩
    exact ⟨rfl, ⟨_, h2, rfl⟩, h3⟩
theorem outF_b (w : World) (N : Nat) (bs : List Int) (x : Nat) (h : OutB w N bs) (hx : W64 x) (hl : bs.length ≤ 1000000) :
    Calls Tryz.prog 35 #[.pointer (some ⟨N, 0, none⟩), .float .f64 x] w (PutB w N (bs ++ eN x)) := by
  obtain ⟨L, ho, rfl⟩ := h
  have hk := key_range hx
  refine (outF_any w N L x (keyI x).toNat hx (by omega) ho ?_).mono ?_
  · rw [show catR (encF (keyI x).toNat :: L) = catR L ++ encF (keyI x).toNat from rfl, List.length_append]
    unfold encF; rw [bigN_len]
    omega
  · rintro r w' ⟨rfl, h2, h3⟩
    exact ⟨rfl, ⟨_, h2, rfl⟩, h3⟩
set_option maxHeartbeats 2000000 in
theorem fput1_any (w : World) (N M : Nat) (bs : List Int) (z : Int) (h : OutB w N bs) (hz0 : 0 ≤ z) (hz : z ≤ 4096) (hl : bs.length ≤ 1000000) (hM : w.cell? ⟨M, 0, none⟩ = some (.pointer (some ⟨N, 0, none⟩))) :
    Calls Tryz.prog 31 #[.int .i64 z, .pointer (some ⟨M, 0, none⟩)] w (PutB w N (bs ++ eU z)) := by
  have HU := Lib.hid (outU_b w N bs z.toNat h (by omega) hl)
  unfold eU
  have ez : ((z.toNat : Nat) : Int) = z := by omega
  rw [ez] at HU
  have i1 : IntKind.u64.wrap z = z := by rw [IntKind.wrap_u64]; omega
  generalize encU z.toNat = e at *
  clear h ez
  go_enter Tryz.func31, Tryz.ntmps31
  go_wp2_with fail
  refine (HU.out).mono ?_; rintro r w1 ⟨rfl, ho, hg⟩
  have HS := Lib.hid (And.intro ho hg)
  clear ho hg
  go_wp2_with fail
  go_end0
  exact ⟨rfl, HS.out.1, HS.out.2⟩
set_option maxHeartbeats 4000000 in
theorem eachC_any (w0 w : World) (N M : Nat) (v : Value) (l : List Int) (bs : List Int) (hv : Ints .i64 w0 v l) (hw : Below w0.heap.size w0 w) (hN : w0.heap.size ≤ N) (h : OutB w N bs) (hs : ∀ x ∈ l, 0 ≤ x ∧ x ≤ 4096) (hl : l.length ≤ 20) (hb : bs.length ≤ 900000) (hM : w.cell? ⟨M, 0, none⟩ = some (.pointer (some ⟨N, 0, none⟩))) (hne : M ≠ N) :
    Calls Tryz.prog 30 #[v, .func (.func 31) #[] #[.pointer (some ⟨M, 0, none⟩)]] w (PutB w N (bs ++ l.flatMap eU)) := by
  have HL := Lib.hid (fun k => flat_max (e := eU) (n := 9) (l := l) (fun x hx => Nat.le_trans (eU_max hs x hx) (by decide)) k)
  have HT := Lib.hid (fun k (hk : k < l.length) wr X (hx : X.length ≤ 1000000) (h : OutB wr N X) hM => fput1_any wr N M X (l.getD k 0) h (And.left (by
    have e : l.getD k 0 = l[k] := by simp [List.getD, hk]
    rw [e]; exact hs _ (List.getElem_mem hk))) (And.right (by
    have e : l.getD k 0 = l[k] := by simp [List.getD, hk]
    rw [e]; exact hs _ (List.getElem_mem hk))) hx hM)
  have HN := Lib.hid (fun k (hk : k < l.length) => show (l.take (k + 1)).flatMap eU = (l.take k).flatMap eU ++ eU (l.getD k 0) by
    have e : l.getD k 0 = l[k] := by simp [List.getD, hk]
    rw [e]; exact flat_snoc hk)
  have HE := Lib.hid (show (l.take l.length).flatMap eU = l.flatMap eU by rw [List.take_length])
  have HB := Lib.hid (fun wr (h : w.grownBy wr (some N)) => below_grown hw h hN)
  have HO := Lib.hid h
  obtain ⟨a, cap, rfl, h1, h3⟩ := hv
  have HC := Lib.hid h3
  clear hs h3 h hw
  have HMm := Lib.hid hM
  clear hM
  go_enter Tryz.func30, Tryz.ntmps30
  go_wp2_with fail
  go_loopw [8] (fun i wr => ∃ k : Nat, k ≤ l.length ∧ i = .int .i64 k ∧ Hid (OutB wr N (bs ++ (l.take k).flatMap eU) ∧ w.grownBy wr (some N))) (fun i _ => l.length - (intOf i).toNat)
  case atStart => exact ⟨0, Nat.zero_le _, rfl, Lib.hid ⟨(show bs ++ (l.take 0).flatMap eU = bs by simp).symm ▸ HO.out, grown_below (Below.refl _ _) _⟩⟩
  case round =>
    obtain ⟨k, hk, rfl, HS⟩ := hrel
    by_cases hlk : k < l.length
    · have hlk' : (k : Int) < (l.length : Int) := by omega
      rcases HC.out with h3 | ⟨b, off, rfl, hlt, hc⟩
      · rw [h3] at hlk; simp at hlk
      have hx := ((HB.out wr HS.out.2).cell (p := ⟨b, off + k, none⟩) hlt).trans (hc k hlk)
      have HTk := Lib.hid (HT.out k hlk wr _ (by have := HL.out k; simp only [List.length_append]; omega) HS.out.1 (cell_grown HS.out.2 HMm.out hne))
      have HNk := Lib.hid (HN.out k hlk)
      clear hc
      generalize l.getD k 0 = x at *
      generalize eU x = y at *
      generalize (l.take k).flatMap eU = q at *
      go_wp2_with fail
      refine (HTk.out).mono ?_; rintro r w2 ⟨rfl, ho, hg⟩
      have HQ := Lib.hid (And.intro ho (grown_then HS.out.2 hg))
      clear ho hg hx
      go_wp2_with fail
      go_roundw
      case rel => exact ⟨k + 1, by omega, by go_num, Lib.hid ⟨by rw [HNk.out, ← List.append_assoc]; exact HQ.out.1, HQ.out.2⟩⟩
      case measure => simp [intOf]; omega
    · have hke : k = l.length := by omega
      subst hke
      have HS2 := HS.out
      rw [HE.out] at HS2
      have HS3 := Lib.hid HS2
      clear HS2
      go_wp2_with fail
      go_end0
      exact ⟨rfl, HS3.out.1, HS3.out.2⟩
set_option maxHeartbeats 4000000 in
theorem eachI_any (w0 w : World) (N : Nat) (v : Value) (l : List Int) (bs : List Int) (hv : Ints .i64 w0 v l) (hw : Below w0.heap.size w0 w) (hN : w0.heap.size ≤ N) (h : OutB w N bs) (hs : ∀ x ∈ l, -9223372036854775808 ≤ x ∧ x ≤ 9223372036854775807) (hl : l.length ≤ 20) (hb : bs.length ≤ 900000) :
    Calls Tryz.prog 32 #[v, .func (.func 33) #[.pointer (some ⟨N, 0, none⟩)] #[]] w (PutB w N (bs ++ l.flatMap encI)) := by
  have HL := Lib.hid (fun k => flat_max (e := encI) (n := 9) (l := l) (fun x hx => eI_max hs x hx) k)
  have HT := Lib.hid (fun k (hk : k < l.length) wr X (hx : X.length ≤ 1000000) (h : OutB wr N X) => outI_b wr N X (l.getD k 0) h (And.left (by
    have e : l.getD k 0 = l[k] := by simp [List.getD, hk]
    rw [e]; exact hs _ (List.getElem_mem hk))) (And.right (by
    have e : l.getD k 0 = l[k] := by simp [List.getD, hk]
    rw [e]; exact hs _ (List.getElem_mem hk))) hx)
  have HN := Lib.hid (fun k (hk : k < l.length) => show (l.take (k + 1)).flatMap encI = (l.take k).flatMap encI ++ encI (l.getD k 0) by
    have e : l.getD k 0 = l[k] := by simp [List.getD, hk]
    rw [e]; exact flat_snoc hk)
  have HE := Lib.hid (show (l.take l.length).flatMap encI = l.flatMap encI by rw [List.take_length])
  have HB := Lib.hid (fun wr (h : w.grownBy wr (some N)) => below_grown hw h hN)
  have HO := Lib.hid h
  obtain ⟨a, cap, rfl, h1, h3⟩ := hv
  have HC := Lib.hid h3
  clear hs h3 h hw
  go_enter Tryz.func32, Tryz.ntmps32
  go_wp2_with fail
  go_loopw [8] (fun i wr => ∃ k : Nat, k ≤ l.length ∧ i = .int .i64 k ∧ Hid (OutB wr N (bs ++ (l.take k).flatMap encI) ∧ w.grownBy wr (some N))) (fun i _ => l.length - (intOf i).toNat)
  case atStart => exact ⟨0, Nat.zero_le _, rfl, Lib.hid ⟨(show bs ++ (l.take 0).flatMap encI = bs by simp).symm ▸ HO.out, grown_below (Below.refl _ _) _⟩⟩
  case round =>
    obtain ⟨k, hk, rfl, HS⟩ := hrel
    by_cases hlk : k < l.length
    · have hlk' : (k : Int) < (l.length : Int) := by omega
      rcases HC.out with h3 | ⟨b, off, rfl, hlt, hc⟩
      · rw [h3] at hlk; simp at hlk
      have hx := ((HB.out wr HS.out.2).cell (p := ⟨b, off + k, none⟩) hlt).trans (hc k hlk)
      have HTk := Lib.hid (HT.out k hlk wr _ (by have := HL.out k; simp only [List.length_append]; omega) HS.out.1)
      have HNk := Lib.hid (HN.out k hlk)
      clear hc
      generalize l.getD k 0 = x at *
      generalize encI x = y at *
      generalize (l.take k).flatMap encI = q at *
      go_wp2_with fail
      refine (HTk.out).mono ?_; rintro r w2 ⟨rfl, ho, hg⟩
      have HQ := Lib.hid (And.intro ho (grown_then HS.out.2 hg))
      clear ho hg hx
      go_wp2_with fail
      go_roundw
      case rel => exact ⟨k + 1, by omega, by go_num, Lib.hid ⟨by rw [HNk.out, ← List.append_assoc]; exact HQ.out.1, HQ.out.2⟩⟩
      case measure => simp [intOf]; omega
    · have hke : k = l.length := by omega
      subst hke
      have HS2 := HS.out
      rw [HE.out] at HS2
      have HS3 := Lib.hid HS2
      clear HS2
      go_wp2_with fail
      go_end0
      exact ⟨rfl, HS3.out.1, HS3.out.2⟩
set_option maxHeartbeats 4000000 in
theorem eachN_any (w0 w : World) (N : Nat) (v : Value) (l : List Nat) (bs : List Int) (hv : Fls w0 v l) (hw : Below w0.heap.size w0 w) (hN : w0.heap.size ≤ N) (h : OutB w N bs) (hs : ∀ x ∈ l, W64 x) (hl : l.length ≤ 20) (hb : bs.length ≤ 900000) :
    Calls Tryz.prog 34 #[v, .func (.func 35) #[.pointer (some ⟨N, 0, none⟩)] #[]] w (PutB w N (bs ++ l.flatMap eN)) := by
  have HL := Lib.hid (fun k => flat_max (e := eN) (n := 9) (l := l) (fun x hx => Nat.le_trans (eN_max x hx) (by decide)) k)
  have HT := Lib.hid (fun k (hk : k < l.length) wr X (hx : X.length ≤ 1000000) (h : OutB wr N X) => outF_b wr N X (l.getD k 0) h (by
    have e : l.getD k 0 = l[k] := by simp [List.getD, hk]
    rw [e]; exact hs _ (List.getElem_mem hk)) hx)
  have HN := Lib.hid (fun k (hk : k < l.length) => show (l.take (k + 1)).flatMap eN = (l.take k).flatMap eN ++ eN (l.getD k 0) by
    have e : l.getD k 0 = l[k] := by simp [List.getD, hk]
    rw [e]; exact flat_snoc hk)
  have HE := Lib.hid (show (l.take l.length).flatMap eN = l.flatMap eN by rw [List.take_length])
  have HB := Lib.hid (fun wr (h : w.grownBy wr (some N)) => below_grown hw h hN)
  have HO := Lib.hid h
  obtain ⟨a, cap, rfl, h1, h3⟩ := hv
  have HC := Lib.hid h3
  clear hs h3 h hw
  go_enter Tryz.func34, Tryz.ntmps34
  go_wp2_with fail
  go_loopw [8] (fun i wr => ∃ k : Nat, k ≤ l.length ∧ i = .int .i64 k ∧ Hid (OutB wr N (bs ++ (l.take k).flatMap eN) ∧ w.grownBy wr (some N))) (fun i _ => l.length - (intOf i).toNat)
  case atStart => exact ⟨0, Nat.zero_le _, rfl, Lib.hid ⟨(show bs ++ (l.take 0).flatMap eN = bs by simp).symm ▸ HO.out, grown_below (Below.refl _ _) _⟩⟩
  case round =>
    obtain ⟨k, hk, rfl, HS⟩ := hrel
    by_cases hlk : k < l.length
    · have hlk' : (k : Int) < (l.length : Int) := by omega
      rcases HC.out with h3 | ⟨b, off, rfl, hlt, hc⟩
      · rw [h3] at hlk; simp at hlk
      have hx := ((HB.out wr HS.out.2).cell (p := ⟨b, off + k, none⟩) hlt).trans (hc k hlk)
      have HTk := Lib.hid (HT.out k hlk wr _ (by have := HL.out k; simp only [List.length_append]; omega) HS.out.1)
      have HNk := Lib.hid (HN.out k hlk)
      clear hc
      generalize l.getD k 0 = x at *
      generalize eN x = y at *
      generalize (l.take k).flatMap eN = q at *
      go_wp2_with fail
      refine (HTk.out).mono ?_; rintro r w2 ⟨rfl, ho, hg⟩
      have HQ := Lib.hid (And.intro ho (grown_then HS.out.2 hg))
      clear ho hg hx
      go_wp2_with fail
      go_roundw
      case rel => exact ⟨k + 1, by omega, by go_num, Lib.hid ⟨by rw [HNk.out, ← List.append_assoc]; exact HQ.out.1, HQ.out.2⟩⟩
      case measure => simp [intOf]; omega
    · have hke : k = l.length := by omega
      subst hke
      have HS2 := HS.out
      rw [HE.out] at HS2
      have HS3 := Lib.hid HS2
      clear HS2
      go_wp2_with fail
      go_end0
      exact ⟨rfl, HS3.out.1, HS3.out.2⟩
/-- What stands in memory while facts are put: the writer, the variable that the closure holds. -/
structure Pv (w1 wr : World) (bs : List Int) : Prop where
  o : OutB wr w1.heap.size bs
  m : wr.cell? ⟨w1.heap.size + 1, 0, none⟩ = some (.pointer (some ⟨w1.heap.size, 0, none⟩))
  g : Below w1.heap.size w1 wr
theorem Pv.call {w1 wr w' : World} {bs bs' : List Int} (h : Pv w1 wr bs) (ho : OutB w' w1.heap.size bs') (hg : wr.grownBy w' (some w1.heap.size)) : Pv w1 w' bs' :=
  ⟨ho, cell_grown hg h.m (by show w1.heap.size + 1 ≠ _; omega), below_grown h.g hg (Nat.le_refl _)⟩
theorem Pv.below {w1 wr w' : World} {bs : List Int} (h : Pv w1 wr bs) (hb : Below wr.heap.size wr w') : Pv w1 w' bs :=
  ⟨h.o.below hb, cell_hold hb h.m, below_then h.g hb⟩
theorem pv_start (w1 : World) : Pv w1 ((w1.alloc (.cells #[.pointer none, .int .i64 0, .bool true] 116)).alloc (.cells #[.pointer (some ⟨w1.heap.size, 0, none⟩)] 75)) [] := by
  have hb2 := below_one (w1.alloc (.cells #[.pointer none, .int .i64 0, .bool true] 116)) (.cells #[.pointer (some ⟨w1.heap.size, 0, none⟩)] 75)
  have hb := below_then (below_one w1 (.cells #[.pointer none, .int .i64 0, .bool true] 116)) hb2
  have hz : (w1.alloc (.cells #[.pointer none, .int .i64 0, .bool true] 116)).heap.size = w1.heap.size + 1 := by simp
  have hn := heap_alloc_new (w1.alloc (.cells #[.pointer none, .int .i64 0, .bool true] 116)) (.cells #[.pointer (some ⟨w1.heap.size, 0, none⟩)] 75)
  rw [hz] at hn
  refine ⟨⟨[], (out_new w1).below hb2, rfl⟩, ?_, hb⟩
  generalize (w1.alloc (.cells #[.pointer none, .int .i64 0, .bool true] 116)).alloc (.cells #[.pointer (some ⟨w1.heap.size, 0, none⟩)] 75) = W at hn ⊢
  simp [World.cell?, hn]
theorem facts_slice {w : World} {v : Value} {l : List Fa} (h : Facts w v l) : ∃ a c, v = .slice a l.length c := by
  obtain ⟨a, c, e, -⟩ := h
  exact ⟨a, c, e⟩
set_option maxHeartbeats 8000000 in
theorem fput_no (w : World) (D I M V v : Value) (S : Sc) (l : List Fa) (h : Sch4 w D I M V S) (hw : SWf S) (hv : Facts w v l) (hf : ∀ f ∈ l, FaWf f) (hc : (batchL S l).2 ≠ 0) :
    Calls Tryz.prog 11 #[SchV D I M V, v] w fun r w' => r = .returned (.tuple #[.slice none 0 0, .int .i64 ((batchL S l).2 : Nat)]) ∧ Below w.heap.size w w' := by
  have HB0 := Lib.hid (below_one w (SchO D I M V))
  have HC := Lib.hid (fun w1 (hb : Below w.heap.size w w1) => pbatch_any w1 D I M V v S l (h.below hb) hw (hv.below hb) hf)
  obtain ⟨⟨a, c, rfl⟩, ⟨a2, c2, rfl⟩, ⟨a3, c3, rfl⟩, a4, c4, rfl⟩ := h.slices
  obtain ⟨b0, cap, rfl⟩ := facts_slice hv
  have hc2 : (((batchL S l).2 : Int) != 0) = true := by simp; omega
  unfold PairL at HC
  generalize ((batchL S l).2 : Int) = ck at *
  generalize ((batchL S l).1 : Int) = ca at *
  clear h hw hc hv hf
  go_enter Tryz.func11, Tryz.ntmps11
  go_wp2_with fail
  refine (HC.out _ HB0.out).mono ?_; rintro r w1 ⟨rfl, hb⟩
  have HB1 := Lib.hid (below_then HB0.out hb)
  clear hb
  go_wp2_with fail
  go_ret2
  exact ⟨rfl, HB1.out⟩
/-- A fact of a batch is as small as the schema says. -/
theorem fit_small {S : Sc} {f : Fa} (hc : checkL S = 0) (hf : FaWf f) (h : fitsL S f = 0) : (∀ x ∈ f.cs, 0 ≤ x ∧ x ≤ 4096) ∧ f.cs.length ≤ 6 ∧ f.is.length ≤ 3 ∧ f.ns.length ≤ 2 := by
  have hn := cnt_iff.1 (check_cnt' hc).1
  have h1 := fits_ok h
  have h2 := fit_of_fits hc hf.i hf.n h
  refine ⟨fun x hx => ?_, by omega, by omega, by omega⟩
  obtain ⟨k, hk⟩ := List.getElem?_of_mem hx
  have := h2.c k x hk
  omega
theorem encFa_le {S : Sc} {f : Fa} (hc : checkL S = 0) (hf : FaWf f) (h : fitsL S f = 0) : (encFa f).length ≤ 61 := by
  obtain ⟨h1, h2, h3, h4⟩ := fit_small hc hf h
  have k1 := flat_max' (eU_max h1)
  have k2 := flat_max' (eI_max hf.i)
  have k3 := flat_max' (eN_max (l := f.ns))
  unfold encFa
  simp only [List.length_append]
  omega
set_option maxHeartbeats 8000000 in
theorem fput_yes (w : World) (D I M V v : Value) (S : Sc) (l : List Fa) (h : Sch4 w D I M V S) (hw : SWf S) (hv : Facts w v l) (hf : ∀ f ∈ l, FaWf f) (hc : (batchL S l).2 = 0) :
    Calls Tryz.prog 11 #[SchV D I M V, v] w fun r w' => (∃ u, r = .returned (.tuple #[u, .int .i64 0]) ∧ BOwn w' w.heap.size u (encFs l)) ∧ Below w.heap.size w w' := by
  obtain ⟨hck, hl1, hl2, hfs⟩ := batch_ok hc
  have HB0 := Lib.hid (below_one w (SchO D I M V))
  have HC := Lib.hid (fun w1 (hb : Below w.heap.size w w1) => pbatch_any w1 D I M V v S l (h.below hb) hw (hv.below hb) hf)
  unfold PairL at HC
  rw [hc] at HC
  generalize (((batchL S l).1 : Nat) : Int) = ca at HC
  obtain ⟨⟨a, c, rfl⟩, ⟨a2, c2, rfl⟩, ⟨a3, c3, rfl⟩, a4, c4, rfl⟩ := h.slices
  have HLn := Lib.hid (fun k => flat_max (e := encFa) (n := 61) (l := l) (fun x hx => encFa_le hck (hf x hx) (hfs x hx)) k)
  have HS := Lib.hid (fun k (hk : k < l.length) => fit_small hck (hf _ (List.getElem_mem hk)) (hfs _ (List.getElem_mem hk)))
  have HW := Lib.hid (fun k (hk : k < l.length) => hf _ (List.getElem_mem hk))
  have P0 := Lib.hid (fun w1 wr (hk : Pv w1 wr []) => outU_b wr w1.heap.size [] l.length hk.o (by omega) (by simp))
  have P1 := Lib.hid (fun w1 wr bs k (hk : k < l.length) C J N (hp : Pv w1 wr bs) (hb : Below w.heap.size w w1) (h3 : Fact3 w C J N l[k]) (hl : bs.length ≤ 800000) => eachC_any w1 wr w1.heap.size (w1.heap.size + 1) C l[k].cs bs (h3.c.below hb) hp.g (Nat.le_refl _) hp.o (HS.out k hk).1 (by have := (HS.out k hk).2; omega) (by omega) hp.m (by omega))
  have P2 := Lib.hid (fun w1 wr bs k (hk : k < l.length) C J N (hp : Pv w1 wr bs) (hb : Below w.heap.size w w1) (h3 : Fact3 w C J N l[k]) (hl : bs.length ≤ 800000) => eachI_any w1 wr w1.heap.size J l[k].is bs (h3.i.below hb) hp.g (Nat.le_refl _) hp.o (HW.out k hk).i (by have := (HS.out k hk).2; omega) (by omega))
  have P3 := Lib.hid (fun w1 wr bs k (hk : k < l.length) C J N (hp : Pv w1 wr bs) (hb : Below w.heap.size w w1) (h3 : Fact3 w C J N l[k]) (hl : bs.length ≤ 800000) => eachN_any w1 wr w1.heap.size N l[k].ns bs (h3.n.below hb) hp.g (Nat.le_refl _) hp.o (HW.out k hk).n (by have := (HS.out k hk).2; omega) (by omega))
  have HM1 := Lib.hid (fun k (hk : k < l.length) => And.intro (flat_max' (eU_max (HS.out k hk).1)) (And.intro (flat_max' (eI_max (HW.out k hk).i)) (HS.out k hk).2))
  have HN := Lib.hid (fun k (hk : k < l.length) => show (l.take (k + 1)).flatMap encFa = (l.take k).flatMap encFa ++ (l[k].cs.flatMap eU ++ l[k].is.flatMap encI ++ l[k].ns.flatMap eN) from flat_snoc hk)
  have HE := Lib.hid (show encU l.length ++ (l.take l.length).flatMap encFa = encFs l by rw [List.take_length]; rfl)
  have hU9 := (encU_len (x := l.length) (by omega)).2
  have HY := Lib.hid (fun w1 N bs (h : OutB w1 N bs) (hl : bs.length ≤ 2000000) => show Calls Tryz.prog 36 #[.pointer (some ⟨N, 0, none⟩)] w1 (BytesP w1 bs) by
    obtain ⟨L, h1, rfl⟩ := h
    exact bytes_any w1 N L h1 hl)
  obtain ⟨b0, cap, rfl, -, -, h3⟩ := hv
  have HV := Lib.hid h3
  have i1 : IntKind.u64.wrap (l.length : Int) = (l.length : Int) := by rw [IntKind.wrap_u64]; omega
  generalize encFs l = EF at *
  generalize encU l.length = EU at *
  clear h hw hc h3 hf hfs hck
  go_enter Tryz.func11, Tryz.ntmps11
  go_wp2_with fail
  refine (HC.out _ HB0.out).mono ?_; rintro r w1 ⟨rfl, hb⟩
  have HB1 := Lib.hid (below_then HB0.out hb)
  have HP0 := Lib.hid (pv_start w1)
  clear hb
  go_wp2_with fail
  refine (newout_any _).mono ?_; rintro r w2 ⟨rfl, rfl⟩
  have m0 := HP0.out.m
  generalize hW0 : (w1.alloc (.cells #[.pointer none, .int .i64 0, .bool true] 116)).alloc (.cells #[.pointer (some ⟨w1.heap.size, 0, none⟩)] 75) = W0 at *
  go_wp2_with fail
  refine (P0.out _ _ HP0.out).mono ?_; rintro r w3 ⟨rfl, ho, hg⟩
  clear hW0
  have HP1 := Lib.hid (HP0.out.call ho hg)
  clear ho hg m0
  go_wp2_with fail
  go_loopw [28] (fun i wr => ∃ k : Nat, k ≤ l.length ∧ i = .int .i64 k ∧ Hid (Pv w1 wr (EU ++ (l.take k).flatMap encFa))) (fun i _ => l.length - (intOf i).toNat)
  case atStart => exact ⟨0, Nat.zero_le _, rfl, Lib.hid ((show EU ++ (l.take 0).flatMap encFa = [] ++ EU by simp).symm ▸ HP1.out)⟩
  case round =>
    obtain ⟨k, hk, rfl, HD⟩ := hrel
    by_cases hlk : k < l.length
    · have hlk' : (k : Int) < (l.length : Int) := by omega
      rcases HV.out with h3 | ⟨b, off, rfl, hlt, hcc⟩
      · rw [h3] at hlk; simp at hlk
      obtain ⟨C, J, N, hx, hf3⟩ := hcc k hlk
      obtain ⟨y0, y1, y2⟩ := tri_hold (below_then HB1.out HD.out.g) hx
      have Q1 := Lib.hid (fun wr bs hp hl => P1.out w1 wr bs k hlk _ _ _ hp HB1.out hf3 hl)
      have Q2 := Lib.hid (fun wr bs hp hl => P2.out w1 wr bs k hlk _ _ _ hp HB1.out hf3 hl)
      have Q3 := Lib.hid (fun wr bs hp hl => P3.out w1 wr bs k hlk _ _ _ hp HB1.out hf3 hl)
      have HNk := Lib.hid (HN.out k hlk)
      have HEq := Lib.hid (fun Y => List.append_assoc EU ((l.take k).flatMap encFa) Y)
      obtain ⟨q1, q2, q3, q4, q5⟩ := HM1.out k hlk
      have hLk := HLn.out k
      obtain ⟨⟨pa, pc, rfl⟩, ⟨pa2, pc2, rfl⟩, pa3, pc3, rfl⟩ := hf3.slices
      have HQ := Lib.hid (show (EU ++ (l.take k).flatMap encFa).length ≤ 20000 ∧ (EU ++ (l.take k).flatMap encFa ++ l[k].cs.flatMap eU).length ≤ 30000 ∧ (EU ++ (l.take k).flatMap encFa ++ l[k].cs.flatMap eU ++ l[k].is.flatMap encI).length ≤ 40000 by simp only [List.length_append]; omega)
      have hb2 := below_one wr (FaO (.slice pa l[k].cs.length pc) (.slice pa2 l[k].is.length pc2) (.slice pa3 l[k].ns.length pc3))
      have HK0 := Lib.hid (fbox_new wr (.slice pa l[k].cs.length pc) (.slice pa2 l[k].is.length pc2) (.slice pa3 l[k].ns.length pc3))
      have HD2 := Lib.hid (HD.out.below hb2)
      have HKN := Lib.hid (show wr.heap.size ≠ w1.heap.size from by have := HD.out.o; obtain ⟨L, hL, -⟩ := this; have := hL.lt; omega)
      obtain ⟨x0, x1, x2⟩ := HK0.out.reads
      have m0 := HD2.out.m
      clear hcc hx hf3 q1 q2 q3 q4 q5 hLk
      generalize l[k].cs.flatMap eU = E1 at *
      generalize l[k].is.flatMap encI = E2 at *
      generalize l[k].ns.flatMap eN = E3 at *
      generalize EU ++ (l.take k).flatMap encFa = E0 at *
      generalize l[k].cs.length = s1 at *
      generalize l[k].is.length = s2 at *
      generalize l[k].ns.length = s3 at *
      clear hb2
      go_wp2_with fail
      generalize hW2 : wr.alloc (.cells #[.slice pa s1 pc, .slice pa2 s2 pc2, .slice pa3 s3 pc3] 48) = W2 at *
      refine (Q1.out _ _ HD2.out (by have := HQ.out; omega)).mono ?_; rintro r w4 ⟨rfl, ho, hg⟩
      have HD3 := Lib.hid (HD2.out.call ho hg)
      have HK1 := Lib.hid (HK0.out.grown hg HKN.out)
      clear ho hg x0 x1 x2 m0 y0 y1 y2 hW2
      obtain ⟨x0, x1, x2⟩ := HK1.out.reads
      have m0 := HD3.out.m
      go_wp2_with fail
      refine (Q2.out _ _ HD3.out (by have := HQ.out; omega)).mono ?_; rintro r w5 ⟨rfl, ho, hg⟩
      have HD4 := Lib.hid (HD3.out.call ho hg)
      have HK2 := Lib.hid (HK1.out.grown hg HKN.out)
      clear ho hg x0 x1 x2 m0
      obtain ⟨x0, x1, x2⟩ := HK2.out.reads
      have m0 := HD4.out.m
      go_wp2_with fail
      refine (Q3.out _ _ HD4.out (by have := HQ.out; omega)).mono ?_; rintro r w6 ⟨rfl, ho, hg⟩
      have HD5 := Lib.hid (HD4.out.call ho hg)
      clear ho hg x0 x1 x2 m0
      go_wp2_with fail
      go_roundw
      case rel => exact ⟨k + 1, by omega, by go_num, Lib.hid (by rw [HNk.out, ← HEq.out]; have := HD5.out; simpa only [List.append_assoc] using this)⟩
      case measure => simp [intOf]; omega
    · have hke : k = l.length := by omega
      subst hke
      have HL2 := Lib.hid (show (EU ++ (l.take l.length).flatMap encFa).length ≤ 2000000 by have := HLn.out l.length; simp only [List.length_append]; omega)
      have HD2 := HD
      rw [HE.out] at HD2 HL2
      have m0 := HD2.out.m
      go_wp2_with fail
      refine (HY.out _ _ _ HD2.out.o HL2.out).mono ?_; rintro r w7 ⟨⟨v, rfl, ho⟩, hb⟩
      have HO := Lib.hid (And.intro ho (below_then (below_then HB1.out HD2.out.g) hb))
      have hsz := HD2.out.g.size
      have hsz2 := HB1.out.size
      clear hb m0
      obtain ⟨pa, pl, pc, rfl⟩ := own_slice3 ho
      clear ho
      go_wp2_with fail
      go_ret2
      exact ⟨⟨_, rfl, own_mono HO.out.1 (by omega)⟩, HO.out.2⟩
set_option maxRecDepth 100000
open Go.RowKit
set_option linter.unusedVariables false
theorem rN_any (x : Nat) (w : World) (hx : W64 x) : Calls Tryz.prog 26 #[.float .f64 x] w (BytesP w (eN x)) := by
  have hk := key_range hx
  exact rF_any x (keyI x).toNat w hx (by omega)
/-- A fact that a batch may hold. -/
structure Small (f : Fa) : Prop where
  wf : FaWf f
  c : ∀ x ∈ f.cs, 0 ≤ x ∧ x ≤ 4096
  l : f.cs.length ≤ 6 ∧ f.is.length ≤ 3 ∧ f.ns.length ≤ 2
theorem small_of {S : Sc} {f : Fa} (hc : checkL S = 0) (hf : FaWf f) (h : fitsL S f = 0) : Small f := ⟨hf, (fit_small hc hf h).1, (fit_small hc hf h).2⟩
theorem Small.le {f : Fa} (h : Small f) : (encFa f).length ≤ 61 := by
  have k1 := flat_max' (eU_max h.c)
  have k2 := flat_max' (eI_max h.wf.i)
  have k3 := flat_max' (eN_max (l := f.ns))
  have := h.l
  unfold encFa
  simp only [List.length_append]
  omega
theorem int_at {w : World} {k : IntKind} {a : Option Addr} {n cap : Nat} {xs : List Int} {j : Nat} (h : Ints k w (.slice a n cap) xs) (hj : j < xs.length) : ∃ b off, a = some ⟨b, off, none⟩ ∧ b < w.heap.size ∧ w.cell? ⟨b, off + j, none⟩ = some (.int k (xs.getD j 0)) := by
  obtain ⟨a', cap', e', -, h3⟩ := h
  injection e' with e1 e2 e3
  subst e1
  rcases h3 with h3 | ⟨b, off, rfl, hlt, hc⟩
  · rw [h3] at hj; simp at hj
  · exact ⟨b, off, rfl, hlt, hc j hj⟩
theorem fl_at {w : World} {a : Option Addr} {n cap : Nat} {xs : List Nat} {j : Nat} (h : Fls w (.slice a n cap) xs) (hj : j < xs.length) : ∃ b off, a = some ⟨b, off, none⟩ ∧ b < w.heap.size ∧ w.cell? ⟨b, off + j, none⟩ = some (.float .f64 (xs.getD j 0)) := by
  obtain ⟨a', cap', e', -, h3⟩ := h
  injection e' with e1 e2 e3
  subst e1
  rcases h3 with h3 | ⟨b, off, rfl, hlt, hc⟩
  · rw [h3] at hj; simp at hj
  · exact ⟨b, off, rfl, hlt, hc j hj⟩
theorem getD_all {α : Type} {P : α → Prop} {l : List α} {d : α} (h : ∀ x ∈ l, P x) {k : Nat} (hk : k < l.length) : P (l.getD k d) := by
  have e : l.getD k d = l[k] := by simp [List.getD, hk]
  rw [e]; exact h _ (List.getElem_mem hk)
theorem flat_next' {α : Type} {e : α → List Int} {l : List α} {d : α} {k : Nat} (hk : k < l.length) : (l.take (k + 1)).flatMap e = (l.take k).flatMap e ++ e (l.getD k d) := by
  have e1 : l.getD k d = l[k] := by simp [List.getD, hk]
  rw [e1]; exact flat_snoc hk
set_option maxHeartbeats 16000000 in
theorem rfput_any (w : World) (v : Value) (l : List Fa) (h : Facts w v l) (hs : ∀ f ∈ l, Small f) (hl : l.length ≤ 200) :
    Calls Tryz.prog 9 #[v] w (BytesP w (encFs l)) := by
  obtain ⟨i0, hi, hz0, hz1, hz2⟩ := info_parts Tryz.infoU8
  have HU := Lib.hid (rU_any l.length w (by omega))
  have hul := (encU_len (x := l.length) (by omega)).2
  have HLn := Lib.hid (fun k => flat_max (e := encFa) (n := 61) (l := l) (fun x hx => (hs x hx).le) k)
  have HS := Lib.hid (fun k (hk : k < l.length) => hs _ (List.getElem_mem hk))
  have HN := Lib.hid (fun k (hk : k < l.length) => show (l.take (k + 1)).flatMap encFa = (l.take k).flatMap encFa ++ (l[k].cs.flatMap eU ++ l[k].is.flatMap encI ++ l[k].ns.flatMap eN) from flat_snoc hk)
  have HE := Lib.hid (show encU l.length ++ (l.take l.length).flatMap encFa = encFs l by rw [List.take_length]; rfl)
  obtain ⟨a, cap, rfl, h1, hmx, h3⟩ := h
  have HC := Lib.hid h3
  have i1 : IntKind.u64.wrap (l.length : Int) = (l.length : Int) := by rw [IntKind.wrap_u64]; omega
  generalize encFs l = EF at *
  generalize encU l.length = EU at *
  clear hs h3 h1
  go_enter Tryz.func9, Tryz.ntmps9
  go_wp2_with fail
  refine (HU.out).mono ?_; rintro r w1 ⟨⟨d, rfl, ho⟩, hb⟩
  have HS0 := Lib.hid (And.intro ho hb)
  obtain ⟨pa, pl, pc, rfl⟩ := own_slice3 ho
  clear ho hb
  go_wp2_with fail
  go_loopw [3, 4] (fun lv i wr => ∃ k : Nat, k ≤ l.length ∧ i = .int .i64 k ∧ Hid (BOwn wr w.heap.size lv (EU ++ (l.take k).flatMap encFa) ∧ Below w.heap.size w wr)) (fun _ i _ => l.length - (intOf i).toNat)
  case atStart => exact ⟨0, Nat.zero_le _, rfl, Lib.hid ⟨(show EU ++ (l.take 0).flatMap encFa = EU by simp).symm ▸ HS0.out.1, HS0.out.2⟩⟩
  case round =>
    obtain ⟨k, hk, rfl, HR0⟩ := hrel
    obtain ⟨pa, pl, pc, rfl⟩ := own_slice3 HR0.out.1
    by_cases hlk : k < l.length
    · have hlk' : (k : Int) < (l.length : Int) := by omega
      rcases HC.out with h3 | ⟨b, off, rfl, hlt, hcc⟩
      · rw [h3] at hlk; simp at hlk
      obtain ⟨C, J, N, hx, hf3⟩ := hcc k hlk
      have HX := Lib.hid (fun wr (hb : Below w.heap.size w wr) => tri_hold hb hx)
      have HNk := Lib.hid (HN.out k hlk)
      have hLk := HLn.out k
      have HEq := Lib.hid (fun Y => List.append_assoc EU ((l.take k).flatMap encFa) Y)
      obtain ⟨⟨ca, cc, rfl⟩, ⟨ia, ic, rfl⟩, na, nc, rfl⟩ := hf3.slices
      have HF := Lib.hid hf3
      have HSk := Lib.hid (HS.out k hlk)
      have hsl := (HS.out k hlk).l
      have HLE := Lib.hid (show (EU ++ (l.take k).flatMap encFa).length ≤ 20000 by simp only [List.length_append]; omega)
      generalize EU ++ (l.take k).flatMap encFa = E0 at *
      clear hcc hx hf3 hLk
      generalize l[k] = f at *
      have HM1 := Lib.hid (fun j => flat_max (e := eU) (l := f.cs) (eU_max HSk.out.c) j)
      have HM2 := Lib.hid (fun j => flat_max (e := encI) (l := f.is) (eI_max HSk.out.wf.i) j)
      have HM3 := Lib.hid (fun j => flat_max (e := eN) (l := f.ns) eN_max j)
      go_wp2_with fail
      go_loopw [3, 5] (fun lv i wr => ∃ j : Nat, j ≤ f.cs.length ∧ i = .int .i64 j ∧ Hid (BOwn wr w.heap.size lv (E0 ++ (f.cs.take j).flatMap eU) ∧ Below w.heap.size w wr)) (fun _ i _ => f.cs.length - (intOf i).toNat)
      case atStart => exact ⟨0, Nat.zero_le _, rfl, Lib.hid ⟨(show E0 ++ (f.cs.take 0).flatMap eU = E0 by simp).symm ▸ HR0.out.1, HR0.out.2⟩⟩
      case round =>
        obtain ⟨j, hj, rfl, HR1⟩ := hrel
        obtain ⟨pa, pl, pc, rfl⟩ := own_slice3 HR1.out.1
        obtain ⟨x0, x1, x2⟩ := HX.out _ HR1.out.2
        by_cases hlj : j < f.cs.length
        · have hlj' : (j : Int) < (f.cs.length : Int) := by omega
          obtain ⟨cb, coff, rfl, hclt, hcx⟩ := int_at HF.out.c hlj
          have hcx := cell_hold HR1.out.2 hcx
          have hv0 := getD_all (d := 0) HSk.out.c hlj
          have HT := Lib.hid (fun w => rU_any (f.cs.getD j 0).toNat w (by omega))
          have ez : ((f.cs.getD j 0).toNat : Int) = f.cs.getD j 0 := by omega
          rw [ez] at HT
          change Hid (∀ w, Calls _ _ _ _ (BytesP w (eU (f.cs.getD j 0)))) at HT
          have iz : IntKind.u64.wrap (f.cs.getD j 0) = f.cs.getD j 0 := by rw [IntKind.wrap_u64]; omega
          have HYl := Lib.hid (encU_three (x := (f.cs.getD j 0).toNat) (by omega))
          change Hid ((eU (f.cs.getD j 0)).length ≤ 3) at HYl
          clear hv0 ez
          have HNj := Lib.hid (flat_next' (e := eU) (d := 0) hlj)
          have HMj := Lib.hid (And.intro (HM1.out j) (HM1.out (j + 1)))
          have hpl := HLE.out
          have HPL := Lib.hid (show (E0 ++ (f.cs.take j).flatMap eU).length + 3 ≤ 30000 by have h1 := HM1.out f.cs.length; have h2 := HM2.out f.is.length; rw [List.take_length] at h1 h2; have := HMj.out; simp only [List.length_append]; omega)
          generalize f.cs.getD j 0 = x at *
          generalize eU x = y at *
          generalize (f.cs.take j).flatMap eU = q at *
          go_wp2_with fail
          refine (HT.out _).mono ?_; rintro r w2 ⟨⟨d, rfl, ho⟩, hb⟩
          have HO2 := Lib.hid (own_stay HR1.out.1 hb)
          have HB2 := Lib.hid (below_then HR1.out.2 hb)
          have HD2 := Lib.hid (Ints.own ho)
          obtain ⟨da, dl, dc, rfl⟩ := own_slice3 ho
          clear ho hb x0 x1 x2 hcx
          go_wp2_with (at_builtin; refine wpList_append_want _ (by rfl) _ _ 27 rfl w.heap.size 5 i0 (.int .u8 0) 1 Tryz.underlying27 hi hz0 hz1 hz2 rfl .u8 _ _ (E0 ++ q) y rfl rfl HO2.out HD2.out (by have := HPL.out; have := HYl.out; unfold maxLen; omega) (by have := HPL.out; have := HYl.out; omega) HB2.out.size ?_; intro v' w3 hown hgrow; have HQ := Lib.hid (And.intro hown (HB2.out.grown hgrow HB2.out.size (fun g hg => (HO2.out.lt g hg).1))); obtain ⟨pv', lv', cv', rfl⟩ := own_slice3 hown; clear hown hgrow)
          go_roundw
          case rel => exact ⟨j + 1, by omega, by go_num, Lib.hid ⟨by rw [HNj.out, ← List.append_assoc]; exact HQ.out.1, HQ.out.2⟩⟩
          case measure => simp [intOf]; omega
        · have hje : j = f.cs.length := by omega
          subst hje
          have HG1 := HR1.out
          rw [List.take_length] at HG1
          have HG1 := Lib.hid HG1
          go_wp2_with fail
          go_loopw [3, 6] (fun lv i wr => ∃ j : Nat, j ≤ f.is.length ∧ i = .int .i64 j ∧ Hid (BOwn wr w.heap.size lv (E0 ++ f.cs.flatMap eU ++ (f.is.take j).flatMap encI) ∧ Below w.heap.size w wr)) (fun _ i _ => f.is.length - (intOf i).toNat)
          case atStart => exact ⟨0, Nat.zero_le _, rfl, Lib.hid ⟨(show E0 ++ f.cs.flatMap eU ++ (f.is.take 0).flatMap encI = E0 ++ f.cs.flatMap eU by simp).symm ▸ HG1.out.1, HG1.out.2⟩⟩
          case round =>
            obtain ⟨j, hj, rfl, HR2⟩ := hrel
            obtain ⟨pa, pl, pc, rfl⟩ := own_slice3 HR2.out.1
            obtain ⟨x0, x1, x2⟩ := HX.out _ HR2.out.2
            by_cases hlj : j < f.is.length
            · have hlj' : (j : Int) < (f.is.length : Int) := by omega
              obtain ⟨cb, coff, rfl, hclt, hcx⟩ := int_at HF.out.i hlj
              have hcx := cell_hold HR2.out.2 hcx
              have hv0 := getD_all (d := 0) HSk.out.wf.i hlj
              have HT := Lib.hid (fun w => rI_any (f.is.getD j 0) w hv0.1 hv0.2)
              have HYl := Lib.hid (encI_len hv0.1 hv0.2).2
              clear hv0
              have HNj := Lib.hid (flat_next' (e := encI) (d := 0) hlj)
              have HMj := Lib.hid (And.intro (HM2.out j) (HM2.out (j + 1)))
              have hpl := HLE.out
              have HPL := Lib.hid (show (E0 ++ f.cs.flatMap eU ++ (f.is.take j).flatMap encI).length + 9 ≤ 30000 by have h1 := HM1.out f.cs.length; have h2 := HM2.out f.is.length; rw [List.take_length] at h1 h2; have := HMj.out; simp only [List.length_append]; omega)
              generalize f.is.getD j 0 = x at *
              generalize encI x = y at *
              generalize (f.is.take j).flatMap encI = q at *
              go_wp2_with fail
              refine (HT.out _).mono ?_; rintro r w2 ⟨⟨d, rfl, ho⟩, hb⟩
              have HO2 := Lib.hid (own_stay HR2.out.1 hb)
              have HB2 := Lib.hid (below_then HR2.out.2 hb)
              have HD2 := Lib.hid (Ints.own ho)
              obtain ⟨da, dl, dc, rfl⟩ := own_slice3 ho
              clear ho hb x0 x1 x2 hcx
              go_wp2_with (at_builtin; refine wpList_append_want _ (by rfl) _ _ 27 rfl w.heap.size 5 i0 (.int .u8 0) 1 Tryz.underlying27 hi hz0 hz1 hz2 rfl .u8 _ _ (E0 ++ f.cs.flatMap eU ++ q) y rfl rfl HO2.out HD2.out (by have := HPL.out; have := HYl.out; unfold maxLen; omega) (by have := HPL.out; have := HYl.out; omega) HB2.out.size ?_; intro v' w3 hown hgrow; have HQ := Lib.hid (And.intro hown (HB2.out.grown hgrow HB2.out.size (fun g hg => (HO2.out.lt g hg).1))); obtain ⟨pv', lv', cv', rfl⟩ := own_slice3 hown; clear hown hgrow)
              go_roundw
              case rel => exact ⟨j + 1, by omega, by go_num, Lib.hid ⟨by rw [HNj.out, ← List.append_assoc]; exact HQ.out.1, HQ.out.2⟩⟩
              case measure => simp [intOf]; omega
            · have hje : j = f.is.length := by omega
              subst hje
              have HG2 := HR2.out
              rw [List.take_length] at HG2
              have HG2 := Lib.hid HG2
              go_wp2_with fail
              go_loopw [3, 7] (fun lv i wr => ∃ j : Nat, j ≤ f.ns.length ∧ i = .int .i64 j ∧ Hid (BOwn wr w.heap.size lv (E0 ++ f.cs.flatMap eU ++ f.is.flatMap encI ++ (f.ns.take j).flatMap eN) ∧ Below w.heap.size w wr)) (fun _ i _ => f.ns.length - (intOf i).toNat)
              case atStart => exact ⟨0, Nat.zero_le _, rfl, Lib.hid ⟨(show E0 ++ f.cs.flatMap eU ++ f.is.flatMap encI ++ (f.ns.take 0).flatMap eN = E0 ++ f.cs.flatMap eU ++ f.is.flatMap encI by simp).symm ▸ HG2.out.1, HG2.out.2⟩⟩
              case round =>
                obtain ⟨j, hj, rfl, HR3⟩ := hrel
                obtain ⟨pa, pl, pc, rfl⟩ := own_slice3 HR3.out.1
                obtain ⟨x0, x1, x2⟩ := HX.out _ HR3.out.2
                by_cases hlj : j < f.ns.length
                · have hlj' : (j : Int) < (f.ns.length : Int) := by omega
                  obtain ⟨cb, coff, rfl, hclt, hcx⟩ := fl_at HF.out.n hlj
                  have hcx := cell_hold HR3.out.2 hcx
                  have HT := Lib.hid (fun w => rN_any (f.ns.getD j 0) w (getD_all (d := 0) HSk.out.wf.n hlj))
                  have HYl := Lib.hid (show (eN (f.ns.getD j 0)).length ≤ 8 by unfold eN encF; rw [bigN_len]; exact Nat.le_refl _)
                  have HNj := Lib.hid (flat_next' (e := eN) (d := 0) hlj)
                  have HMj := Lib.hid (And.intro (HM3.out j) (HM3.out (j + 1)))
                  have hpl := HLE.out
                  have HPL := Lib.hid (show (E0 ++ f.cs.flatMap eU ++ f.is.flatMap encI ++ (f.ns.take j).flatMap eN).length + 8 ≤ 30000 by have h1 := HM1.out f.cs.length; have h2 := HM2.out f.is.length; rw [List.take_length] at h1 h2; have := HMj.out; simp only [List.length_append]; omega)
                  generalize f.ns.getD j 0 = x at *
                  generalize eN x = y at *
                  generalize (f.ns.take j).flatMap eN = q at *
                  go_wp2_with fail
                  refine (HT.out _).mono ?_; rintro r w2 ⟨⟨d, rfl, ho⟩, hb⟩
                  have HO2 := Lib.hid (own_stay HR3.out.1 hb)
                  have HB2 := Lib.hid (below_then HR3.out.2 hb)
                  have HD2 := Lib.hid (Ints.own ho)
                  obtain ⟨da, dl, dc, rfl⟩ := own_slice3 ho
                  clear ho hb x0 x1 x2 hcx
                  go_wp2_with (at_builtin; refine wpList_append_want _ (by rfl) _ _ 27 rfl w.heap.size 5 i0 (.int .u8 0) 1 Tryz.underlying27 hi hz0 hz1 hz2 rfl .u8 _ _ (E0 ++ f.cs.flatMap eU ++ f.is.flatMap encI ++ q) y rfl rfl HO2.out HD2.out (by have := HPL.out; have := HYl.out; unfold maxLen; omega) (by have := HPL.out; have := HYl.out; omega) HB2.out.size ?_; intro v' w3 hown hgrow; have HQ := Lib.hid (And.intro hown (HB2.out.grown hgrow HB2.out.size (fun g hg => (HO2.out.lt g hg).1))); obtain ⟨pv', lv', cv', rfl⟩ := own_slice3 hown; clear hown hgrow)
                  go_roundw
                  case rel => exact ⟨j + 1, by omega, by go_num, Lib.hid ⟨by rw [HNj.out, ← List.append_assoc]; exact HQ.out.1, HQ.out.2⟩⟩
                  case measure => simp [intOf]; omega
                · have hje : j = f.ns.length := by omega
                  subst hje
                  have HG3 := HR3.out
                  rw [List.take_length] at HG3
                  have HG3 := Lib.hid HG3
                  go_wp2_with fail
                  go_roundw
                  case rel => exact ⟨k + 1, by omega, by go_num, Lib.hid ⟨by rw [HNk.out, ← HEq.out]; have := HG3.out.1; simpa only [List.append_assoc] using this, HG3.out.2⟩⟩
                  case measure => simp [intOf]; omega
    · have hke : k = l.length := by omega
      subst hke
      have HR9 := HR0.out
      rw [HE.out] at HR9
      have HG9 := Lib.hid HR9
      clear HR9
      go_wp2_with fail
      go_ret
      exact ⟨⟨_, rfl, HG9.out.1⟩, HG9.out.2⟩
set_option maxRecDepth 100000
open Go.RowKit
set_option linter.unusedVariables false
def exT : Sc := ⟨[(⟨#[97]⟩, 2)], [⟨#[109]⟩], [], []⟩
def exF : Fa := ⟨[1], [-3], []⟩
theorem ext_check : checkL exT = 0 := by decide +kernel
theorem ext_batch : (batchL exT [exF]).2 = 0 := by decide +kernel
theorem ext_enc : encFs [exF] = [1, 1, 1, 1, 7, 253] := by decide +kernel
theorem ext_str : ((strB [1, 1, 1, 1, 7, 253]).toList == [1, 1, 1, 1, 7, 253]) = true := by rw [ByteArray.toList_eq]; rfl
theorem ext_wf : SWf exT := by
  refine ⟨?_, ?_, ?_, ?_⟩
  · intro d h
    simp only [exT, List.mem_cons, List.not_mem_nil, or_false] at h
    subst h; decide
  · intro s h
    simp only [exT, List.mem_cons, List.not_mem_nil, or_false] at h
    subst h; decide
  · intro s h; simp [exT] at h
  · intro v h; simp [exT] at h
theorem exf_wf : FaWf exF := by
  refine ⟨?_, ?_, ?_, by decide⟩
  · intro x h; simp [exF] at h; omega
  · intro x h; simp [exF] at h; omega
  · intro x h; simp [exF] at h
theorem ext_dims (w : World) (N : Nat) (T : TypeId) (hN : w.heap.size = N) : Dims (w.alloc (.cells #[.string ⟨#[97]⟩, .int .i64 2] T)) (.slice (some ⟨N, 0, none⟩) 1 1) exT.ds := by
  subst hN
  refine ⟨_, _, rfl, by simp [exT], by simp [exT], .inr ⟨w.heap.size, 0, rfl, by simp, fun i hi => ?_⟩⟩
  have h2 : i < 1 := hi
  obtain rfl : i = 0 := by omega
  exact ⟨by simp [go_sem, dn, exT], by simp [go_sem, dz, exT]⟩
theorem fa_one {W : World} {C J N : Value} {f : Fa} {T : TypeId} {K : Nat} (hK : W.heap.size = K) (h : Fact3 W C J N f) : Facts (W.alloc (.cells #[C, J, N] T)) (.slice (some ⟨K, 0, none⟩) 1 1) [f] := by
  subst hK
  refine ⟨_, _, rfl, Nat.le_refl _, by simp, .inr ⟨W.heap.size, 0, rfl, by simp, fun i hi => ?_⟩⟩
  have h2 : i < 1 := hi
  obtain rfl : i = 0 := by omega
  exact ⟨C, J, N, ⟨by simp [go_sem], by simp [go_sem], by simp [go_sem]⟩, h.below (below_one _ _)⟩
set_option maxHeartbeats 4000000 in
theorem fawake_any (w : World) : Calls Tryz.prog 5 #[] w fun e w' => e = .returned (.bool true) ∧ Below w.heap.size w w' := by
  obtain ⟨W1, hW1⟩ : ∃ W, w.alloc (.cells #[.string ⟨#[97]⟩, .int .i64 2] 41) = W := ⟨_, rfl⟩
  obtain ⟨W2, hW2⟩ : ∃ W, W1.alloc (.cells #[.string ⟨#[109]⟩] 9) = W := ⟨_, rfl⟩
  have hd := ext_dims w w.heap.size 41 rfl
  rw [hW1] at hd
  have hs := strs_one (W := W1) (x := ⟨#[109]⟩) (T := 9) rfl
  have z1 : W1.heap.size = w.heap.size + 1 := by rw [← hW1]; simp
  rw [hW2, z1] at hs
  have b1 := below_one w (.cells #[.string ⟨#[97]⟩, .int .i64 2] 41)
  rw [hW1] at b1
  have b2 := below_one W1 (.cells #[.string ⟨#[109]⟩] 9)
  rw [hW2] at b2
  have z2 : W2.heap.size = w.heap.size + 1 + 1 := by rw [← hW2]; simp [z1]
  obtain ⟨W3, hW3⟩ : ∃ W, W2.alloc (SchO (.slice (some ⟨w.heap.size, 0, none⟩) 1 1) (.slice (some ⟨w.heap.size + 1, 0, none⟩) 1 1) (.slice none 0 0) (.slice none 0 0)) = W := ⟨_, rfl⟩
  have b3 := below_one W2 (SchO (.slice (some ⟨w.heap.size, 0, none⟩) 1 1) (.slice (some ⟨w.heap.size + 1, 0, none⟩) 1 1) (.slice none 0 0) (.slice none 0 0))
  have hx := box_new W2 (.slice (some ⟨w.heap.size, 0, none⟩) 1 1) (.slice (some ⟨w.heap.size + 1, 0, none⟩) 1 1) (.slice none 0 0) (.slice none 0 0)
  rw [hW3] at b3 hx
  rw [z2] at hx
  have z3 : W3.heap.size = w.heap.size + 1 + 1 + 1 := by rw [← hW3]; simp [z2]
  have HS : Sch4 W3 (.slice (some ⟨w.heap.size, 0, none⟩) 1 1) (.slice (some ⟨w.heap.size + 1, 0, none⟩) 1 1) (.slice none 0 0) (.slice none 0 0) exT :=
    ⟨(hd.below b2).below b3, hs.below b3, ⟨none, 0, rfl, by simp [exT], by simp [exT], .inl rfl⟩, ⟨none, 0, rfl, by simp [exT], .inl rfl⟩⟩
  obtain ⟨W4, hW4⟩ : ∃ W, W3.alloc (.cells #[.int .i64 1] 3) = W := ⟨_, rfl⟩
  have hc := set_one (k := .i64) (w := W3) (x := 1) (T := 3) z3
  have b4 := below_one W3 (.cells #[.int .i64 1] 3)
  rw [hW4] at hc b4
  have z4 : W4.heap.size = w.heap.size + 1 + 1 + 1 + 1 := by rw [← hW4]; simp [z3]
  obtain ⟨W5, hW5⟩ : ∃ W, W4.alloc (.cells #[.int .i64 (-3)] 2) = W := ⟨_, rfl⟩
  have hj := set_one (k := .i64) (w := W4) (x := -3) (T := 2) z4
  have b5 := below_one W4 (.cells #[.int .i64 (-3)] 2)
  rw [hW5] at hj b5
  have z5 : W5.heap.size = w.heap.size + 1 + 1 + 1 + 1 + 1 := by rw [← hW5]; simp [z4]
  have h3 : Fact3 W5 (.slice (some ⟨w.heap.size + 1 + 1 + 1, 0, none⟩) 1 1) (.slice (some ⟨w.heap.size + 1 + 1 + 1 + 1, 0, none⟩) 1 1) (.slice none 0 0) exF :=
    ⟨hc.below b5, hj, ⟨none, 0, rfl, by simp [exF], .inl rfl⟩⟩
  have hfs := fa_one (T := 48) z5 h3
  have b6 := below_one W5 (.cells #[.slice (some ⟨w.heap.size + 1 + 1 + 1, 0, none⟩) 1 1, .slice (some ⟨w.heap.size + 1 + 1 + 1 + 1, 0, none⟩) 1 1, .slice none 0 0] 48)
  have b46 := below_then b4 (below_then b5 b6)
  have HP := Lib.hid (fput_yes _ _ _ _ _ _ exT [exF] (HS.below b46) ext_wf hfs (fun f hf => by simp at hf; subst hf; exact exf_wf) ext_batch)
  rw [ext_enc] at HP
  have HB := Lib.hid (below_then b1 (below_then b2 (below_then b3 b46)))
  obtain ⟨x0, x1, x2, x3⟩ := hx.reads
  have hbt : Bt [1, 1, 1, 1, 7, 253] := by rw [← ext_enc]; intro x hx; rw [ext_enc] at hx; simp at hx; omega
  have HC := Lib.hid (fun w1 v (hv : Ints .u8 w1 v [1, 1, 1, 1, 7, 253]) => conv_ints hv hbt)
  have hq := ext_str
  generalize strB [1, 1, 1, 1, 7, 253] = sb at *
  clear hd hs z1 b1 b2 z2 b3 hx z3 HS hc b4 z4 hj b5 z5 h3 hfs b6 b46
  subst hW5 hW4 hW3 hW2 hW1
  go_enter Tryz.func5, Tryz.ntmps5
  go_wp2_with fail
  refine (HP.out).mono ?_; rintro e w1 ⟨⟨u, rfl, ho⟩, hb⟩
  have HB1 := Lib.hid (below_then HB.out hb)
  have hc := HC.out _ _ (Ints.own ho)
  obtain ⟨pa, pl, pc, rfl⟩ := own_slice3 ho
  clear x0 x1 x2 x3 hb ho
  go_wp2_with fail
  go_ret
  exact ⟨rfl, HB1.out⟩
end Go.Proofs.YtdnbjaeeebodkaaGreat
