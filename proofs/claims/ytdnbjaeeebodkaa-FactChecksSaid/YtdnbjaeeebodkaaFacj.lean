/- Layer 12: which facts are a schema's: the program's Check and Batch, the reference's Fits and Batch. -/
import Derived.Test.YtdnbjaeeebodkaaFacg
import Derived.Test.YtdnbjaeeebodkaaSchk
namespace Go.Proofs.Ytdnbjaeeebodkaa
set_option maxRecDepth 100000
open Go.RowKit
set_option linter.unusedVariables false
theorem sch_fact (w : World) (D I M V C J N : Value) (W : World) (hW : (w.alloc (SchO D I M V)).alloc (FaO C J N) = W) :
    Below w.heap.size w W ∧ Box W w.heap.size D I M V ∧ FBox W (w.heap.size + 1) C J N := by
  subst hW
  have hz : (w.alloc (SchO D I M V)).heap.size = w.heap.size + 1 := by simp
  have k2 := fbox_new (w.alloc (SchO D I M V)) C J N
  rw [hz] at k2
  exact ⟨below_then (below_one _ _) (below_one _ _), (box_new w D I M V).below (below_one _ _), k2⟩
theorem fits_len {S : Sc} {f : Fa} (h : f.cs.length ≠ S.ds.length ∨ f.is.length ≠ S.is.length ∨ f.ns.length ≠ S.ns.length) : ((fitsL S f : Nat) : Int) = 3 := by
  unfold fitsL; rw [if_pos h]; rfl
theorem fits_in {S : Sc} {f : Fa} (h1 : f.cs.length = S.ds.length) (h2 : f.is.length = S.is.length) (h3 : f.ns.length = S.ns.length) : fitsL S f = if codB S.ds f.cs = true then 0 else 2 := by
  unfold fitsL; rw [if_neg (by omega)]
theorem fits_bad {S : Sc} {f : Fa} (h1 : f.cs.length = S.ds.length) (h2 : f.is.length = S.is.length) (h3 : f.ns.length = S.ns.length) {k : Nat} (hk : k < f.cs.length) (h : codAt S.ds f.cs k = false) : ((fitsL S f : Nat) : Int) = 2 := by
  rw [fits_in h1 h2 h3, if_neg (by rw [cod_bad hk h]; decide)]; rfl
theorem fits_good {S : Sc} {f : Fa} (h1 : f.cs.length = S.ds.length) (h2 : f.is.length = S.is.length) (h3 : f.ns.length = S.ns.length) (h : ∀ j, j < f.cs.length → codAt S.ds f.cs j = true) : ((fitsL S f : Nat) : Int) = 0 := by
  rw [fits_in h1 h2 h3, if_pos (cod_good h)]; rfl
theorem cod_lt {ds : List (ByteArray × Int)} {cs : List Int} {k : Nat} (h : cs.getD k 0 < 0) : codAt ds cs k = false := by
  unfold codAt; rw [decide_eq_false (by omega)]; rfl
theorem cod_ge {ds : List (ByteArray × Int)} {cs : List Int} {k : Nat} (h : dz ds k ≤ cs.getD k 0) : codAt ds cs k = false := by
  unfold codAt; rw [decide_eq_false (p := cs.getD k 0 < dz ds k) (by omega)]; simp
theorem cod_ok {ds : List (ByteArray × Int)} {cs : List Int} {k : Nat} (h0 : ¬ cs.getD k 0 < 0) (h : ¬ dz ds k ≤ cs.getD k 0) : codAt ds cs k = true := by
  unfold codAt; rw [decide_eq_true (by omega), decide_eq_true (p := cs.getD k 0 < dz ds k) (by omega)]; rfl
theorem upto_next {P : Nat → Prop} {k : Nat} (h : ∀ j, j < k → P j) (hk : P k) : ∀ j, j < k + 1 → P j := fun j hj => if h0 : j < k then h j h0 else by
  have e : j = k := by omega
  rw [e]; exact hk
set_option maxHeartbeats 8000000 in
theorem pfault_any (w : World) (D I M V C J N : Value) (S : Sc) (f : Fa) (h : Sch4 w D I M V S) (h' : Fact3 w C J N f) (hf : FaWf f) :
    Calls Try.prog 21 #[SchV D I M V, FactV C J N] w fun e w' => e = .returned (.int .i64 (fitsL S f : Nat)) ∧ Below w.heap.size w w' := by
  obtain ⟨W, hW⟩ : ∃ W, (w.alloc (SchO D I M V)).alloc (FaO C J N) = W := ⟨_, rfl⟩
  obtain ⟨hb, hx, hx'⟩ := sch_fact w D I M V C J N W hW
  have HB := Lib.hid hb
  have HX := Lib.hid (And.intro hx hx')
  obtain ⟨⟨a, c, rfl⟩, ⟨a2, c2, rfl⟩, ⟨a3, c3, rfl⟩, a4, c4, rfl⟩ := h.slices
  obtain ⟨⟨b, d, rfl⟩, ⟨b2, d2, rfl⟩, b3, d3, rfl⟩ := h'.slices
  obtain ⟨x0, x1, x2, x3⟩ := hx.reads
  obtain ⟨y0, y1, y2⟩ := hx'.reads
  by_cases n1 : f.cs.length = S.ds.length
  · by_cases n2 : f.is.length = S.is.length
    · by_cases n3 : f.ns.length = S.ns.length
      · obtain ⟨a', cap', e', -, -, h3⟩ := h.d.below hb
        injection e' with e1 e2 e3
        subst e1 e3
        have HC := Lib.hid h3
        clear h3 e2
        obtain ⟨a', cap', e', -, h3⟩ := h'.c.below hb
        injection e' with e1 e2 e3
        subst e1 e3
        have HC' := Lib.hid h3
        clear h3 e2
        have HY := Lib.hid (fun h => fits_good n1 n2 n3 h)
        have HE := Lib.hid (fun k hk h => fits_bad n1 n2 n3 (k := k) hk h)
        have HQ := Lib.hid n1
        have hl := hf.l.1
        rw [n1] at HX y0 hW ⊢
        rw [n2] at HX y1 hW ⊢
        rw [n3] at HX y2 hW ⊢
        rw [n1] at HC' HY hl
        clear h h' hb hx hx' hf n1 n2 n3
        generalize ((fitsL S f : Nat) : Int) = R at *
        go_enter Try.func21, Try.ntmps21
        go_wp2_with fail
        clear x0 x1 x2 x3 y0 y1 y2 hW
        go_loopw [35] (fun i wr => ∃ k : Nat, k ≤ S.ds.length ∧ i = .int .i64 k ∧ Hid (Drawn W wr) ∧ Hid (∀ j, j < k → codAt S.ds f.cs j = true)) (fun i _ => S.ds.length - (intOf i).toNat)
        case atStart => exact ⟨0, Nat.zero_le _, rfl, Lib.hid (Drawn.refl _), Lib.hid (fun j hj => by omega)⟩
        case round =>
          obtain ⟨k, hk, rfl, HD, HJ⟩ := hrel
          obtain ⟨x0, x1, x2, x3⟩ := (HX.out.1.below HD.out.below).reads
          obtain ⟨y0, y1, y2⟩ := (HX.out.2.below HD.out.below).reads
          by_cases hlk : k < S.ds.length
          · have hlk' : (k : Int) < (S.ds.length : Int) := by omega
            have HK2 := Lib.hid (show k < f.cs.length by rw [HQ.out]; exact hlk)
            rcases HC.out with h3 | ⟨bb, off, rfl, hlt, hc⟩
            · rw [h3] at hlk; simp at hlk
            rcases HC'.out with h3 | ⟨bb', off', rfl, hlt', hc'⟩
            · have hn := HK2.out; rw [h3] at hn; simp at hn
            have hx := (HD.out.below.cell (p := ⟨bb, off + k * 2 + 1, none⟩) hlt).trans (hc k hlk).2
            have hx' := (HD.out.below.cell (p := ⟨bb', off' + k, none⟩) hlt').trans (hc' k hlk)
            have HN := Lib.hid (fun n => HD.out.next n)
            have HE2 := Lib.hid (fun h => HE.out k HK2.out h)
            clear hc hc'
            by_cases c1 : f.cs.getD k 0 < 0
            · have hR := HE2.out (cod_lt c1)
              subst hR
              have e1 : decide (f.cs.getD k 0 < 0) = true := decide_eq_true c1
              generalize f.cs.getD k 0 = x at hx' c1 e1
              generalize dz S.ds k = z at hx
              go_wp2_with fail
              go_ret
              exact ⟨rfl, below_then HB.out HD.out.below⟩
            · by_cases c2 : dz S.ds k ≤ f.cs.getD k 0
              · have hR := HE2.out (cod_ge c2)
                subst hR
                have e1 : decide (f.cs.getD k 0 < 0) = false := decide_eq_false c1
                have e2 : decide (dz S.ds k ≤ f.cs.getD k 0) = true := decide_eq_true c2
                generalize f.cs.getD k 0 = x at hx' c1 e1 c2 e2
                generalize dz S.ds k = z at hx c2 e2
                go_wp2_with fail
                go_ret
                exact ⟨rfl, below_then HB.out HD.out.below⟩
              · have HJ2 := Lib.hid (upto_next HJ.out (cod_ok c1 c2))
                have e1 : decide (f.cs.getD k 0 < 0) = false := decide_eq_false c1
                have e2 : decide (dz S.ds k ≤ f.cs.getD k 0) = false := decide_eq_false c2
                generalize f.cs.getD k 0 = x at hx' c1 e1 c2 e2
                generalize dz S.ds k = z at hx c2 e2
                have HD2 := HD
                go_wp2_with fail
                go_roundw
                case rel => exact ⟨k + 1, by omega, by go_num, HD2, HJ2⟩
                case measure => simp [intOf]; omega
          · have hke : k = S.ds.length := by omega
            subst hke
            have hR := HY.out HJ.out
            subst hR
            go_wp2_with fail
            go_ret
            exact ⟨rfl, below_then HB.out HD.out.below⟩
      · rw [fits_len (.inr (.inr n3))]
        have e1 : ((f.cs.length : Int) != (S.ds.length : Int)) = false := by rw [n1]; simp
        have e2 : ((f.is.length : Int) != (S.is.length : Int)) = false := by rw [n2]; simp
        have e3 : ((f.ns.length : Int) != (S.ns.length : Int)) = true := by simp; omega
        clear h h' hb hx hx' hf n1 n2 n3
        go_enter Try.func21, Try.ntmps21
        go_wp2_with fail
        go_ret
        exact ⟨rfl, HB.out⟩
    · rw [fits_len (.inr (.inl n2))]
      have e1 : ((f.cs.length : Int) != (S.ds.length : Int)) = false := by rw [n1]; simp
      have e2 : ((f.is.length : Int) != (S.is.length : Int)) = true := by simp; omega
      clear h h' hb hx hx' hf n1 n2
      go_enter Try.func21, Try.ntmps21
      go_wp2_with fail
      go_ret
      exact ⟨rfl, HB.out⟩
  · rw [fits_len (.inl n1)]
    have e1 : ((f.cs.length : Int) != (S.ds.length : Int)) = true := by simp; omega
    clear h h' hb hx hx' hf n1
    go_enter Try.func21, Try.ntmps21
    go_wp2_with fail
    go_ret
    exact ⟨rfl, HB.out⟩
set_option maxHeartbeats 8000000 in
theorem rfits_any (w : World) (D I M V C J N : Value) (S : Sc) (f : Fa) (h : Sch4 w D I M V S) (h' : Fact3 w C J N f) (hf : FaWf f) :
    Calls Try.prog 11 #[SchV D I M V, FactV C J N] w fun e w' => e = .returned (.int .i64 (fitsL S f : Nat)) ∧ Below w.heap.size w w' := by
  obtain ⟨W, hW⟩ : ∃ W, (w.alloc (SchO D I M V)).alloc (FaO C J N) = W := ⟨_, rfl⟩
  obtain ⟨hb, hx, hx'⟩ := sch_fact w D I M V C J N W hW
  have HB := Lib.hid hb
  have HX := Lib.hid (And.intro hx hx')
  obtain ⟨⟨a, c, rfl⟩, ⟨a2, c2, rfl⟩, ⟨a3, c3, rfl⟩, a4, c4, rfl⟩ := h.slices
  obtain ⟨⟨b, d, rfl⟩, ⟨b2, d2, rfl⟩, b3, d3, rfl⟩ := h'.slices
  obtain ⟨x0, x1, x2, x3⟩ := hx.reads
  obtain ⟨y0, y1, y2⟩ := hx'.reads
  by_cases n1 : f.cs.length = S.ds.length
  · by_cases n2 : f.is.length = S.is.length
    · by_cases n3 : f.ns.length = S.ns.length
      · obtain ⟨a', cap', e', -, -, h3⟩ := h.d.below hb
        injection e' with e1 e2 e3
        subst e1 e3
        have HC := Lib.hid h3
        clear h3 e2
        obtain ⟨a', cap', e', -, h3⟩ := h'.c.below hb
        injection e' with e1 e2 e3
        subst e1 e3
        have HC' := Lib.hid h3
        clear h3 e2
        have HY := Lib.hid (fun h => fits_good n1 n2 n3 h)
        have HE := Lib.hid (fun k hk h => fits_bad n1 n2 n3 (k := k) hk h)
        have HQ := Lib.hid n1
        have hl := hf.l.1
        rw [n1] at HX y0 hW ⊢
        rw [n2] at HX y1 hW ⊢
        rw [n3] at HX y2 hW ⊢
        rw [n1] at HC' HY hl
        clear h h' hb hx hx' hf n1 n2 n3
        generalize ((fitsL S f : Nat) : Int) = R at *
        go_enter Try.func11, Try.ntmps11
        go_wp2_with fail
        clear x0 x1 x2 x3 y0 y1 y2 hW
        go_loopw [5] (fun i wr => ∃ k : Nat, k ≤ S.ds.length ∧ i = .int .i64 k ∧ Hid (Drawn W wr) ∧ Hid (∀ j, j < k → codAt S.ds f.cs j = true)) (fun i _ => S.ds.length - (intOf i).toNat)
        case atStart => exact ⟨0, Nat.zero_le _, rfl, Lib.hid (Drawn.refl _), Lib.hid (fun j hj => by omega)⟩
        case round =>
          obtain ⟨k, hk, rfl, HD, HJ⟩ := hrel
          obtain ⟨x0, x1, x2, x3⟩ := (HX.out.1.below HD.out.below).reads
          obtain ⟨y0, y1, y2⟩ := (HX.out.2.below HD.out.below).reads
          by_cases hlk : k < S.ds.length
          · have hlk' : (k : Int) < (S.ds.length : Int) := by omega
            have HK2 := Lib.hid (show k < f.cs.length by rw [HQ.out]; exact hlk)
            rcases HC.out with h3 | ⟨bb, off, rfl, hlt, hc⟩
            · rw [h3] at hlk; simp at hlk
            rcases HC'.out with h3 | ⟨bb', off', rfl, hlt', hc'⟩
            · have hn := HK2.out; rw [h3] at hn; simp at hn
            have hx := (HD.out.below.cell (p := ⟨bb, off + k * 2 + 1, none⟩) hlt).trans (hc k hlk).2
            have hx' := (HD.out.below.cell (p := ⟨bb', off' + k, none⟩) hlt').trans (hc' k hlk)
            have HN := Lib.hid (fun n => HD.out.next n)
            have HE2 := Lib.hid (fun h => HE.out k HK2.out h)
            clear hc hc'
            by_cases c1 : f.cs.getD k 0 < 0
            · have hR := HE2.out (cod_lt c1)
              subst hR
              have e1 : decide (f.cs.getD k 0 < 0) = true := decide_eq_true c1
              generalize f.cs.getD k 0 = x at hx' c1 e1
              generalize dz S.ds k = z at hx
              go_upto_region 6 with fail
              go_quiet (fail)
              have HD2 := Lib.hid (HN.out nq)
              go_wp2
              go_ret
              exact ⟨rfl, below_then HB.out HD2.out.below⟩
            · by_cases c2 : dz S.ds k ≤ f.cs.getD k 0
              · have hR := HE2.out (cod_ge c2)
                subst hR
                have e1 : decide (f.cs.getD k 0 < 0) = false := decide_eq_false c1
                have e2 : decide (dz S.ds k ≤ f.cs.getD k 0) = true := decide_eq_true c2
                generalize f.cs.getD k 0 = x at hx' c1 e1 c2 e2
                generalize dz S.ds k = z at hx c2 e2
                go_upto_region 6 with fail
                go_quiet (fail)
                have HD2 := Lib.hid (HN.out nq)
                go_wp2
                go_ret
                exact ⟨rfl, below_then HB.out HD2.out.below⟩
              · have HJ2 := Lib.hid (upto_next HJ.out (cod_ok c1 c2))
                have e1 : decide (f.cs.getD k 0 < 0) = false := decide_eq_false c1
                have e2 : decide (dz S.ds k ≤ f.cs.getD k 0) = false := decide_eq_false c2
                generalize f.cs.getD k 0 = x at hx' c1 e1 c2 e2
                generalize dz S.ds k = z at hx c2 e2
                go_upto_region 6 with fail
                go_quiet (fail)
                have HD2 := Lib.hid (HN.out nq)
                go_wp2
                go_roundw
                case rel => exact ⟨k + 1, by omega, by go_num, HD2, HJ2⟩
                case measure => simp [intOf]; omega
          · have hke : k = S.ds.length := by omega
            subst hke
            have hR := HY.out HJ.out
            subst hR
            go_wp2_with fail
            go_ret
            exact ⟨rfl, below_then HB.out HD.out.below⟩
      · rw [fits_len (.inr (.inr n3))]
        have e1 : ((f.cs.length : Int) != (S.ds.length : Int)) = false := by rw [n1]; simp
        have e2 : ((f.is.length : Int) != (S.is.length : Int)) = false := by rw [n2]; simp
        have e3 : ((f.ns.length : Int) != (S.ns.length : Int)) = true := by simp; omega
        clear h h' hb hx hx' hf n1 n2 n3
        go_enter Try.func11, Try.ntmps11
        go_wp2_with fail
        go_ret
        exact ⟨rfl, HB.out⟩
    · rw [fits_len (.inr (.inl n2))]
      have e1 : ((f.cs.length : Int) != (S.ds.length : Int)) = false := by rw [n1]; simp
      have e2 : ((f.is.length : Int) != (S.is.length : Int)) = true := by simp; omega
      clear h h' hb hx hx' hf n1 n2
      go_enter Try.func11, Try.ntmps11
      go_wp2_with fail
      go_ret
      exact ⟨rfl, HB.out⟩
  · rw [fits_len (.inl n1)]
    have e1 : ((f.cs.length : Int) != (S.ds.length : Int)) = true := by simp; omega
    clear h h' hb hx hx' hf n1
    go_enter Try.func11, Try.ntmps11
    go_wp2_with fail
    go_ret
    exact ⟨rfl, HB.out⟩
set_option maxHeartbeats 4000000 in
theorem fcheck_any (w : World) (D I M V C J N : Value) (S : Sc) (f : Fa) (h : Sch4 w D I M V S) (hw : SWf S) (h' : Fact3 w C J N f) (hf : FaWf f) :
    Calls Try.prog 12 #[SchV D I M V, FactV C J N] w fun e w' => e = .returned (.int .i64 (if checkL S = 0 then (fitsL S f : Nat) else 1)) ∧ Below w.heap.size w w' := by
  obtain ⟨W, hW⟩ : ∃ W, (w.alloc (SchO D I M V)).alloc (FaO C J N) = W := ⟨_, rfl⟩
  obtain ⟨hb, hx, hx'⟩ := sch_fact w D I M V C J N W hW
  have HB := Lib.hid hb
  have HX := Lib.hid (And.intro hx hx')
  have HC := Lib.hid (check_any W D I M V S (h.below hb) hw)
  have HF := Lib.hid (fun w1 (hb1 : Below W.heap.size W w1) => pfault_any w1 D I M V C J N S f (h.below (below_then hb hb1)) (h'.below (below_then hb hb1)) hf)
  obtain ⟨⟨a, c, rfl⟩, ⟨a2, c2, rfl⟩, ⟨a3, c3, rfl⟩, a4, c4, rfl⟩ := h.slices
  obtain ⟨⟨b, d, rfl⟩, ⟨b2, d2, rfl⟩, b3, d3, rfl⟩ := h'.slices
  obtain ⟨x0, x1, x2, x3⟩ := hx.reads
  obtain ⟨y0, y1, y2⟩ := hx'.reads
  by_cases hc : checkL S = 0
  · rw [if_pos hc]
    rw [hc] at HC
    generalize ((fitsL S f : Nat) : Int) = R at *
    clear h h' hb hx hx' hf hc hw
    go_enter Try.func12, Try.ntmps12
    go_wp2_with fail
    refine (HC.out).mono ?_; rintro e w1 ⟨rfl, hb1⟩
    have HB1 := Lib.hid hb1
    clear x0 x1 x2 x3 y0 y1 y2 hb1 hW
    obtain ⟨x0, x1, x2, x3⟩ := (HX.out.1.below HB1.out).reads
    obtain ⟨y0, y1, y2⟩ := (HX.out.2.below HB1.out).reads
    go_wp2_with fail
    refine (HF.out _ HB1.out).mono ?_; rintro e w2 ⟨rfl, hb2⟩
    have HB2 := Lib.hid (below_then HB.out (below_then HB1.out hb2))
    clear hb2
    go_wp2_with fail
    go_ret
    exact ⟨rfl, HB2.out⟩
  · rw [if_neg hc]
    have hc2 : ((checkL S : Int) != 0) = true := by simp; omega
    generalize (checkL S : Int) = ck at *
    clear h h' hb hx hx' hf hc hw
    go_enter Try.func12, Try.ntmps12
    go_wp2_with fail
    refine (HC.out).mono ?_; rintro e w1 ⟨rfl, hb1⟩
    have HB1 := Lib.hid (below_then HB.out hb1)
    clear hb1
    go_wp2_with fail
    go_ret
    exact ⟨rfl, HB1.out⟩
/-- The two numbers of Batch. -/
abbrev PairL (S : Sc) (l : List Fa) : Value := .tuple #[.int .i64 ((batchL S l).1 : Nat), .int .i64 ((batchL S l).2 : Nat)]
theorem pair_no {S : Sc} {l : List Fa} (h : checkL S ≠ 0) : PairL S l = .tuple #[.int .i64 0, .int .i64 1] := by
  unfold PairL batchL; rw [if_pos h]; rfl
theorem pair_many {S : Sc} {l : List Fa} (h : checkL S = 0) (hl : l.length < 1 ∨ 200 < l.length) : PairL S l = .tuple #[.int .i64 0, .int .i64 3] := by
  unfold PairL batchL; rw [if_neg (by omega), if_pos hl]; rfl
theorem pair_bad {S : Sc} {l : List Fa} (h : checkL S = 0) (hl : ¬ (l.length < 1 ∨ 200 < l.length)) {k : Nat} (hk : k < l.length) (hj : ∀ j, j < k → ∀ h : j < l.length, ((fitsL S l[j] : Nat) : Int) = 0) (hb : ((fitsL S l[k] : Nat) : Int) ≠ 0) : PairL S l = .tuple #[.int .i64 k, .int .i64 ((fitsL S l[k] : Nat))] := by
  unfold PairL batchL; rw [if_neg (by omega), if_neg hl, goL_bad hk (fun j h1 h2 => by have := hj j h2 h1; omega) (by omega)]
theorem pair_good {S : Sc} {l : List Fa} (h : checkL S = 0) (hl : ¬ (l.length < 1 ∨ 200 < l.length)) (hj : ∀ j, j < l.length → ∀ h : j < l.length, ((fitsL S l[j] : Nat) : Int) = 0) : PairL S l = .tuple #[.int .i64 0, .int .i64 0] := by
  unfold PairL batchL; rw [if_neg (by omega), if_neg hl, goL_good (fun j h1 => by have := hj j h1 h1; omega)]; rfl
set_option maxHeartbeats 8000000 in
theorem pbatch_any (w : World) (D I M V v : Value) (S : Sc) (l : List Fa) (h : Sch4 w D I M V S) (hw : SWf S) (hv : Facts w v l) (hf : ∀ f ∈ l, FaWf f) :
    Calls Try.prog 8 #[SchV D I M V, v] w fun e w' => e = .returned (PairL S l) ∧ Below w.heap.size w w' := by
  have HB := Lib.hid (below_one w (SchO D I M V))
  have HX := Lib.hid (box_new w D I M V)
  have HC := Lib.hid (check_any (w.alloc (SchO D I M V)) D I M V S (h.below HB.out) hw)
  have HF := Lib.hid (fun w1 k (hk : k < l.length) C J N (h1 : Fact3 w C J N l[k]) (hb1 : Below w.heap.size w w1) => pfault_any w1 D I M V C J N S l[k] (h.below hb1) (h1.below hb1) (hf _ (List.getElem_mem hk)))
  obtain ⟨⟨a, c, rfl⟩, ⟨a2, c2, rfl⟩, ⟨a3, c3, rfl⟩, a4, c4, rfl⟩ := h.slices
  obtain ⟨b0, cap, rfl, h1, hmx, h3⟩ := hv
  have HV := Lib.hid h3
  obtain ⟨x0, x1, x2, x3⟩ := HX.out.reads
  clear h3 h1 h
  generalize hW : w.alloc (SchO (.slice a S.ds.length c) (.slice a2 S.is.length c2) (.slice a3 S.ns.length c3) (.slice a4 S.vs.length c4)) = W at *
  by_cases hc : checkL S = 0
  · rw [hc] at HC
    by_cases hl : l.length < 1 ∨ 200 < l.length
    · rw [pair_many hc hl]
      clear hc hw HF hf
      by_cases h0 : l.length = 0
      · have e0 : ((l.length : Int) == 0) = true := by simp [h0]
        clear hl h0
        go_enter Try.func8, Try.ntmps8
        go_wp2_with fail
        refine (HC.out).mono ?_; rintro e w1 ⟨rfl, hb1⟩
        have HB1 := Lib.hid (below_then HB.out hb1)
        clear hb1
        go_wp2_with fail
        go_ret2
        exact ⟨rfl, HB1.out⟩
      · have e0 : ((l.length : Int) == 0) = false := by rw [beq_eq_false_iff_ne]; omega
        have hq : (200 : Int) < (l.length : Int) := by omega
        have e1 : decide ((200 : Int) < (l.length : Int)) = true := decide_eq_true hq
        clear hq
        clear hl h0
        go_enter Try.func8, Try.ntmps8
        go_wp2_with fail
        refine (HC.out).mono ?_; rintro e w1 ⟨rfl, hb1⟩
        have HB1 := Lib.hid (below_then HB.out hb1)
        clear hb1
        go_wp2_with fail
        go_ret2
        exact ⟨rfl, HB1.out⟩
    · have HPG := Lib.hid (fun h => pair_good (S := S) (l := l) hc hl h)
      have HPB := Lib.hid (fun k hk h h2 => pair_bad (S := S) (l := l) hc hl (k := k) hk h h2)
      have e0 : ((l.length : Int) == 0) = false := by rw [beq_eq_false_iff_ne]; omega
      have hq : ¬ (200 : Int) < (l.length : Int) := by omega
      have e1 : decide ((200 : Int) < (l.length : Int)) = false := decide_eq_false hq
      clear hq
      clear hl hc hw hf
      generalize PairL S l = P at *
      go_enter Try.func8, Try.ntmps8
      go_wp2_with fail
      refine (HC.out).mono ?_; rintro e w1 ⟨rfl, hb1⟩
      have HB1 := Lib.hid (And.intro (below_then HB.out hb1) (HX.out.below hb1))
      clear hb1 x0 x1 x2 x3 hW
      go_wp2_with fail
      go_loopw [22] (fun i wr => ∃ k : Nat, k ≤ l.length ∧ i = .int .i64 k ∧ Hid (Below w.heap.size w wr ∧ Box wr w.heap.size (.slice a S.ds.length c) (.slice a2 S.is.length c2) (.slice a3 S.ns.length c3) (.slice a4 S.vs.length c4)) ∧ Hid (∀ j, j < k → ∀ h : j < l.length, ((fitsL S l[j] : Nat) : Int) = 0)) (fun i _ => l.length - (intOf i).toNat)
      case atStart => exact ⟨0, Nat.zero_le _, rfl, HB1, Lib.hid (fun j hj => by omega)⟩
      case round =>
        obtain ⟨k, hk, rfl, HD, HJ⟩ := hrel
        by_cases hlk : k < l.length
        · have hlk' : (k : Int) < (l.length : Int) := by omega
          rcases HV.out with h3 | ⟨b, off, rfl, hlt, hcc⟩
          · rw [h3] at hlk; simp at hlk
          obtain ⟨C, J, N, hx, hf⟩ := hcc k hlk
          obtain ⟨y0, y1, y2⟩ := tri_hold HD.out.1 hx
          have HFk := Lib.hid (fun w1 hb => HF.out w1 k hlk _ _ _ hf hb)
          obtain ⟨⟨pa, pc, rfl⟩, ⟨pa2, pc2, rfl⟩, pa3, pc3, rfl⟩ := hf.slices
          have hb2 := below_one wr (FaO (.slice pa l[k].cs.length pc) (.slice pa2 l[k].is.length pc2) (.slice pa3 l[k].ns.length pc3))
          have HD2 := Lib.hid (And.intro (below_then HD.out.1 hb2) (HD.out.2.below hb2))
          obtain ⟨x0, x1, x2, x3⟩ := HD2.out.2.reads
          have HPk := Lib.hid (fun h => HPB.out k hlk HJ.out h)
          have HJk := Lib.hid (fun (h : ((fitsL S l[k] : Nat) : Int) = 0) => upto_next (P := fun j => ∀ h : j < l.length, ((fitsL S l[j] : Nat) : Int) = 0) HJ.out (fun _ => h))
          clear hcc hx hf hb2
          generalize ((fitsL S l[k] : Nat) : Int) = R at *
          generalize l[k].cs.length = s1 at *
          generalize l[k].is.length = s2 at *
          generalize l[k].ns.length = s3 at *
          go_wp2_with fail
          refine (HFk.out _ HD2.out.1).mono ?_; rintro e w2 ⟨rfl, hb⟩
          have HD3 := Lib.hid (And.intro (below_then HD2.out.1 hb) (HD2.out.2.below hb))
          clear x0 x1 x2 x3 y0 y1 y2 hb
          by_cases hR : R = 0
          · have HJ2 := Lib.hid (HJk.out hR)
            subst hR
            go_wp2_with fail
            go_roundw
            case rel => exact ⟨k + 1, by omega, by go_num, HD3, HJ2⟩
            case measure => simp [intOf]; omega
          · have hP := HPk.out hR
            subst hP
            have hR2 : (R != 0) = true := by simpa using hR
            go_wp2_with fail
            go_ret2
            exact ⟨rfl, HD3.out.1⟩
        · have hke : k = l.length := by omega
          subst hke
          have hP := HPG.out HJ.out
          subst hP
          go_wp2_with fail
          go_ret2
          exact ⟨rfl, HD.out.1⟩
  · rw [pair_no hc]
    have hc2 : ((checkL S : Int) != 0) = true := by simp; omega
    generalize (checkL S : Int) = ck at *
    clear hc hw HF hf
    go_enter Try.func8, Try.ntmps8
    go_wp2_with fail
    refine (HC.out).mono ?_; rintro e w1 ⟨rfl, hb1⟩
    have HB1 := Lib.hid (below_then HB.out hb1)
    clear hb1
    go_wp2_with fail
    go_ret2
    exact ⟨rfl, HB1.out⟩
end Go.Proofs.Ytdnbjaeeebodkaa
