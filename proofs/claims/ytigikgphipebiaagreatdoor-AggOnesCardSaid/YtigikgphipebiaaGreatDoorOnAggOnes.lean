/- AggOnes: for any schema, any set of dimensions and any fact the statement's function returns true and changes nothing that was there. No condition; the row lists the two tables of math/bits as the program's text lays them. -/
import Derived.SevenTiedAt
import Derived.Test.YtigikgphipebiaaGreatDoorRows
import Derived.Test.YtigikgphipebiaaGreatDoorCards
import Derived.Test.YtigikgphipebiaaGreatDoorTie
import Derived.Test.YtigikgphipebiaaGreatDoorOn19
import Derived.Test.YtigikgphipebiaaGreatDoorOn34
import Derived.Test.YtigikgphipebiaaGreatDoorOn37
import Derived.Test.YtigikgphipebiaaGreatDoorOn40
import Derived.Test.YtigikgphipebiaaGreatDoorOn43
namespace Go.Proofs.YtigikgphipebiaaGreatDoor.aggOnes
set_option maxRecDepth 100000
open Go.ChangeShapes Go.WideShapes Go.ChangeAt Go.RowKit
set_option linter.unusedVariables false
theorem hold11 {w w' : World} (hb : Below w.heap.size w w') {p0 p1 p2 p3 p4 p5 p6 p7 p8 p9 p10 : Addr} {v0 v1 v2 v3 v4 v5 v6 v7 v8 v9 v10 : Value}
    (h : w.cell? p0 = some v0 ∧ w.cell? p1 = some v1 ∧ w.cell? p2 = some v2 ∧ w.cell? p3 = some v3 ∧ w.cell? p4 = some v4 ∧ w.cell? p5 = some v5 ∧ w.cell? p6 = some v6 ∧ w.cell? p7 = some v7 ∧ w.cell? p8 = some v8 ∧ w.cell? p9 = some v9 ∧ w.cell? p10 = some v10) :
    w'.cell? p0 = some v0 ∧ w'.cell? p1 = some v1 ∧ w'.cell? p2 = some v2 ∧ w'.cell? p3 = some v3 ∧ w'.cell? p4 = some v4 ∧ w'.cell? p5 = some v5 ∧ w'.cell? p6 = some v6 ∧ w'.cell? p7 = some v7 ∧ w'.cell? p8 = some v8 ∧ w'.cell? p9 = some v9 ∧ w'.cell? p10 = some v10 := by
  obtain ⟨h0, h1, h2, h3, h4, h5, h6, h7, h8, h9, h10⟩ := h
  exact ⟨cell_later hb h0, cell_later hb h1, cell_later hb h2, cell_later hb h3, cell_later hb h4, cell_later hb h5, cell_later hb h6, cell_later hb h7, cell_later hb h8, cell_later hb h9, cell_later hb h10⟩
theorem pone_open (w : World) (D I M V C J X : Value) (S : Sc) (m : Int) (f : Fa) (h : Sch4 w D I M V S) (hw : SWf S) (h' : Fact3 w C J X f) (hf : FaWf f) (m0 : 0 ≤ m) (m1 : m ≤ 4294967295) (hT : Tab w) (hT2 : Tab64 w) :
    Calls Tryz.prog 11 #[SchV D I M V, .int .u32 m, FactV C J X] w fun e w' => ∃ c p k q l, e = .returned (.tuple #[.agg #[.int .u64 c.key, .int .i64 c.cnt, .slice p c.is.length k, .slice q c.ns.length l], .int .i64 (oneE S m f)]) ∧ CeM w' (.slice p c.is.length k) (.slice q c.ns.length l) c ∧ (oneE S m f = 0 → OC S m f c) ∧ (oneE S m f ≠ 0 → c = ce0) ∧ CeW c ∧ Below w.heap.size w w' :=
  (pone_any w D I M V C J X S m f h hw h' hf m0 m1 hT hT2).mono fun e w' ⟨c, I2, N2, he, hm, h1, h2, hb⟩ => by
    obtain ⟨⟨p, k, rfl⟩, q, l, rfl⟩ := hm.slices
    refine ⟨c, p, k, q, l, he, hm, h1, h2, ?_, hb⟩
    by_cases e0 : oneE S m f = 0
    · exact (h1 e0).w hf e0
    · rw [h2 e0]; exact ce0_w
set_option maxHeartbeats 16000000 in
theorem walk (D I M V : Value) (S : Sc) (m : Int) (C J X : Value) (f : Fa) (w : World) (h : Sch4 w D I M V S) (hw : SWf S) (hm : 0 ≤ m ∧ m ≤ 4294967295) (h' : Fact3 w C J X f) (hf : FaWf f) (hT : Tab w) (hT2 : Tab64 w) :
    Calls Tryz.prog 3 #[SchV D I M V, .int .u32 m, FactV C J X] w fun e w' => e = .returned (.bool true) ∧ Below w.heap.size w w' := by
  have HA := Lib.hid (fun w1 (hb1 : Below w.heap.size w w1) => awake14_any w1 (hT.call hb1) (hT2.call hb1))
  have hb1 := below_one w (SchO D I M V)
  have hb2 := below_one (w.alloc (SchO D I M V)) (FaO C J X)
  have HB := Lib.hid (below_then hb1 hb2)
  have HX := Lib.hid ((box_new w D I M V).below hb2)
  have hy : ((w.alloc (SchO D I M V)).alloc (FaO C J X)).heap[(w.alloc (SchO D I M V)).heap.size]? = some (.cells #[C, J, X] 32 (0, 0)) := heap_alloc_new _ _
  rw [World.size_alloc] at hy
  have HY := Lib.hid hy
  have HL := Lib.hid (fun w1 (hb : Below w.heap.size w w1) => slight_any w1 D I M V S (h.below hb))
  have HFl := Lib.hid (fun w1 (hb : Below w.heap.size w w1) => flight_any (w1.alloc (.cells #[C, J, X] 32)) (.slice (some ⟨w1.heap.size, 0, none⟩) 1 1) [f] (fa_one (T := 32) rfl (h'.below hb)))
  have HO := Lib.hid (fun w1 (hb : Below w.heap.size w w1) => pone_open w1 D I M V C J X S m f (h.below hb) hw (h'.below hb) hf hm.1 hm.2 (hT.call hb) (hT2.call hb))
  have HCk := Lib.hid (fun w1 (hb : Below w.heap.size w w1) => rcheck_any w1 D I M V S (h.below hb) hw)
  have HFt := Lib.hid (fun w1 (hb : Below w.heap.size w w1) => rfits_any w1 D I M V C J X S f (h.below hb) (h'.below hb) hf)
  have HFu := Lib.hid (fun w1 (hb : Below w.heap.size w w1) (hn : S.ds.length ≤ 6) => rfull_any w1 D I M V S (h.below hb) hn)
  have HSu := Lib.hid (fun w1 (hn : S.ds.length ≤ 6) => ssub_any w1 m S.ds.length hn hm.1 hm.2)
  have HR1 := Lib.hid (fun w1 (hb : Below w.heap.size w w1) h0 => rone14_any w1 D I M V C J X S m f (h.below hb) (h'.below hb) hf hm.1 hm.2 h0 (one_min h0))
  have HRi := Lib.hid (fun w1 P Q c (hb : Below w.heap.size w w1) (hc : CeM w1 P Q c) (hcw : CeW c) => pright_any w1 D I M V P Q S m c (h.below hb) hw hc hcw hm.1 hm.2)
  have HRt := Lib.hid (fun c (hc : OC S m f c) h0 => hc.right hf h0)
  have HWo := Lib.hid (fun c (hc : OC S m f c) h0 => hc.w hf h0)
  have HE := Lib.hid (show oneE S m f = if checkL S = 0 then if fitsL S f = 0 then if ofE S m f.cs = 0 then if minB f.is = true then 10 else 0 else ofE S m f.cs else fitsL S f else 1 from rfl)
  have HFi := Lib.hid (fun w1 (hb : Below w.heap.size w w1) => h'.i.below hb)
  have HfL := Lib.hid hf.l
  obtain ⟨⟨a1, c1, rfl⟩, ⟨a2, c2, rfl⟩, ⟨a3, c3, rfl⟩, a4, c4, rfl⟩ := h.slices
  obtain ⟨⟨p1, d1, rfl⟩, ⟨p2, d2, rfl⟩, p3, d3, rfl⟩ := h'.slices
  clear h hw h' hf hT hT2 hb1 hb2 hy hm
  go_enter Tryz.func3, Tryz.ntmps3
  go_upto_region 1 with fail
  generalize (w.alloc (SchO (.slice a1 S.ds.length c1) (.slice a2 S.is.length c2) (.slice a3 S.ns.length c3) (.slice a4 S.vs.length c4))).alloc (FaO (.slice p1 f.cs.length d1) (.slice p2 f.is.length d2) (.slice p3 f.ns.length d3)) = W at *
  obtain ⟨x0, x1, x2, x3⟩ := HX.out.reads
  go_wp2_with fail
  refine (HL.out _ HB.out).mono ?_; rintro e w1 ⟨⟨bl, rfl⟩, hb⟩
  have HB1 := Lib.hid (below_then HB.out hb)
  have HX1 := Lib.hid (HX.out.below hb)
  have HY1 := Lib.hid ((hb.block _ (Array.getElem?_eq_some_iff.1 HY.out).1).trans HY.out)
  clear hb HL HX HY x0 x1 x2 x3
  cases bl with
  | false =>
    go_wp2_with fail
    refine (HA.out _ HB1.out).mono ?_; rintro e wA ⟨rfl, hbA⟩
    have HBA := Lib.hid (below_then HB1.out hbA)
    clear hbA
    go_wp2_with fail
    go_ret
    exact ⟨rfl, HBA.out⟩
  | true =>
    obtain ⟨y0, y1, y2⟩ := row3 HY1.out
    have HFl1 := Lib.hid (HFl.out w1 HB1.out)
    clear HFl
    go_wp2_with fail
    refine HFl1.out.mono ?_; rintro e w2 ⟨⟨bl, rfl⟩, hd⟩
    have hb := below_one w1 (.cells #[.slice p1 f.cs.length d1, .slice p2 f.is.length d2, .slice p3 f.ns.length d3] 32)
    rw [hd] at hb
    have HB2 := Lib.hid (below_then HB1.out hb)
    have HX2 := Lib.hid (HX1.out.below hb)
    have HY2 := Lib.hid ((hb.block _ (Array.getElem?_eq_some_iff.1 HY1.out).1).trans HY1.out)
    clear hb hd HFl1 HX1 HY1 y0 y1 y2
    cases bl with
    | false =>
      go_wp2_with fail
      refine (HA.out _ HB2.out).mono ?_; rintro e wA ⟨rfl, hbA⟩
      have HBA := Lib.hid (below_then HB2.out hbA)
      clear hbA
      go_wp2_with fail
      go_ret
      exact ⟨rfl, HBA.out⟩
    | true =>
      obtain ⟨x0, x1, x2, x3⟩ := HX2.out.reads
      obtain ⟨y0, y1, y2⟩ := row3 HY2.out
      have H3 := Lib.hid (HO.out w2 HB2.out)
      clear HO
      go_wp2_with fail
      refine H3.out.mono ?_; rintro e w3 ⟨c, pc, kc, qc, lc, rfl, hm, hj1, hj2, hwc, hb⟩
      have hb4 := below_then hb (below_one w3 (.cells #[.int .u64 c.key, .int .i64 c.cnt, .slice pc c.is.length kc, .slice qc c.ns.length lc] 41))
      have HB4 := Lib.hid (below_then HB2.out hb4)
      have HX4 := Lib.hid (HX2.out.below hb4)
      have HY4 := Lib.hid ((hb4.block _ (Array.getElem?_eq_some_iff.1 HY2.out).1).trans HY2.out)
      have HC4 := Lib.hid (cbox_new hm)
      have HWc := Lib.hid hwc
      have HJ1 := Lib.hid hj1
      have HSc := Lib.hid (show oneE S m f ≠ 0 → sameC c ce0 = true from fun q => by rw [hj2 q]; exact same_ce0)
      clear hb hb4 hm hj1 hj2 hwc H3 HX2 HY2 x0 x1 x2 x3 y0 y1 y2
      go_upto_region 4 with fail
      generalize w3.alloc (.cells #[.int .u64 c.key, .int .i64 c.cnt, .slice pc c.is.length kc, .slice qc c.ns.length lc] 41) = w4 at *
      generalize w3.heap.size = K at *
      obtain ⟨x0, x1, x2, x3⟩ := HX4.out.reads
      have H5 := Lib.hid (HCk.out w4 HB4.out)
      clear HCk
      go_wp2_with fail
      refine H5.out.mono ?_; rintro e w5 ⟨rfl, hb⟩
      have HB5 := Lib.hid (below_then HB4.out hb)
      have HX5 := Lib.hid (HX4.out.below hb)
      have HY5 := Lib.hid ((hb.block _ (Array.getElem?_eq_some_iff.1 HY4.out).1).trans HY4.out)
      have HC5 := Lib.hid (HC4.out.below hb)
      clear hb H5 HX4 HY4 HC4 HB4 x0 x1 x2 x3
      by_cases hc0 : checkL S = 0
      rotate_left
      · have hEo : oneE S m f = 1 := by rw [HE.out, if_neg hc0]
        rw [hEo] at HSc ⊢
        have hcn : ((checkL S : Int) == 0) = false := by rw [beq_eq_false_iff_ne]; omega
        generalize checkL S = CL at *
        have E_hne : (1 : Nat) ≠ 0 := by decide
        clear hc0 HE hEo HJ1 HR1 HRi HRt HWo HFt HFu HSu HFi
        go_wp2_with fail
        go_loopw [9, 10] (fun wv iv wr => wv = .int .i64 1 ∧ iv = .int .i64 0 ∧ w5 = wr) (fun _ _ _ => 0)
        case atStart => exact ⟨rfl, rfl, rfl⟩
        case round =>
          obtain ⟨rfl, rfl, rfl⟩ := hrel
          have hsc := HSc.out E_hne
          have H9 := Lib.hid (rsame14_any w5 c ce0 _ _ (.slice none 0 0) (.slice none 0 0) HC5.out.m (ce0_mem _) HWc.out ce0_w)
          rw [hsc] at H9
          clear hsc HSc
          obtain ⟨r0, r1, r2, r3⟩ := HC5.out.reads
          go_wp2_with fail
          refine H9.out.mono ?_; rintro e w9 ⟨rfl, hb9⟩
          have HB9 := Lib.hid (below_then HB5.out hb9)
          clear hb9 H9 r0 r1 r2 r3
          go_wp2_with fail
          refine (HA.out _ HB9.out).mono ?_; rintro e wA ⟨rfl, hbA⟩
          have HBA := Lib.hid (below_then HB9.out hbA)
          clear hbA
          go_wp2_with fail
          go_ret
          exact ⟨rfl, HBA.out⟩
      · have hcn : ((checkL S : Int) == 0) = true := by rw [hc0]; rfl
        have HN := Lib.hid (sc_few hc0).1
        have HE2 := Lib.hid (show oneE S m f = if fitsL S f = 0 then if ofE S m f.cs = 0 then if minB f.is = true then 10 else 0 else ofE S m f.cs else fitsL S f by rw [HE.out, if_pos hc0])
        have HOf := Lib.hid (fun hf => of_fits (m := m) (f := f) hc0 hf)
        generalize checkL S = CL at *
        clear hc0 HE
        obtain ⟨x0, x1, x2, x3⟩ := HX5.out.reads
        obtain ⟨y0, y1, y2⟩ := row3 HY5.out
        have H6 := Lib.hid (HFt.out w5 HB5.out)
        clear HFt
        go_wp2_with fail
        refine H6.out.mono ?_; rintro e w6 ⟨rfl, hb⟩
        have HB6 := Lib.hid (below_then HB5.out hb)
        have HX6 := Lib.hid (HX5.out.below hb)
        have HY6 := Lib.hid ((hb.block _ (Array.getElem?_eq_some_iff.1 HY5.out).1).trans HY5.out)
        have HC6 := Lib.hid (HC5.out.below hb)
        clear hb H6 HX5 HY5 HC5 HB5 x0 x1 x2 x3 y0 y1 y2
        by_cases hf0 : fitsL S f = 0
        rotate_left
        · have hEo : oneE S m f = fitsL S f := by rw [HE2.out, if_neg hf0]
          rw [hEo] at HSc ⊢
          have hn1 : ((fitsL S f : Int) == 0) = false := by rw [beq_eq_false_iff_ne]; omega
          have hn2 : ((fitsL S f : Int) != 0) = true := by simp [hf0]
          have hn3 : ((fitsL S f : Int) == (fitsL S f : Int)) = true := by simp
          have HSc := Lib.hid HSc.out
          generalize fitsL S f = E at *
          have E_hne : E ≠ 0 := hf0
          clear hf0 HE2 hEo HJ1 HR1 HRi HRt HWo HFu HSu HFi HOf
          go_wp2_with fail
          go_loopw [9, 10] (fun wv iv wr => wv = .int .i64 E ∧ iv = .int .i64 0 ∧ w6 = wr) (fun _ _ _ => 0)
          case atStart => exact ⟨rfl, rfl, rfl⟩
          case round =>
            obtain ⟨rfl, rfl, rfl⟩ := hrel
            have hsc := HSc.out E_hne
            have H9 := Lib.hid (rsame14_any w6 c ce0 _ _ (.slice none 0 0) (.slice none 0 0) HC6.out.m (ce0_mem _) HWc.out ce0_w)
            rw [hsc] at H9
            clear hsc HSc
            obtain ⟨r0, r1, r2, r3⟩ := HC6.out.reads
            go_wp2_with fail
            refine H9.out.mono ?_; rintro e w9 ⟨rfl, hb9⟩
            have HB9 := Lib.hid (below_then HB6.out hb9)
            clear hb9 H9 r0 r1 r2 r3
            go_wp2_with fail
            refine (HA.out _ HB9.out).mono ?_; rintro e wA ⟨rfl, hbA⟩
            have HBA := Lib.hid (below_then HB9.out hbA)
            clear hbA
            go_wp2_with fail
            go_ret
            exact ⟨rfl, HBA.out⟩
        · have hn1 : ((fitsL S f : Int) == 0) = true := by rw [hf0]; rfl
          have hfe : ((fitsL S f : Nat) : Int) = 0 := by rw [hf0]; rfl
          rw [hfe] at hn1 ⊢
          have hofe := HOf.out hf0
          rw [hofe] at HE2
          have HE3 := Lib.hid (show oneE S m f = if (if m ≤ fullL S.ds then 0 else 11) = 0 then if minB f.is = true then 10 else 0 else (if m ≤ fullL S.ds then 0 else 11) by rw [HE2.out, if_pos hf0])
          clear hf0 HE2 HOf hfe hofe
          obtain ⟨x0, x1, x2, x3⟩ := HX6.out.reads
          have H7 := Lib.hid (HFu.out w6 HB6.out HN.out)
          clear HFu
          go_wp2_with fail
          refine H7.out.mono ?_; rintro e w7 ⟨rfl, hb⟩
          have HB7 := Lib.hid (below_then HB6.out hb)
          have HX7 := Lib.hid (HX6.out.below hb)
          have HY7 := Lib.hid ((hb.block _ (Array.getElem?_eq_some_iff.1 HY6.out).1).trans HY6.out)
          have HC7 := Lib.hid (HC6.out.below hb)
          clear hb H7 HX6 HY6 HC6 HB6 x0 x1 x2 x3
          have H8 := Lib.hid (HSu.out w7 HN.out)
          clear HSu
          unfold fullL at HE3 ⊢
          go_wp2_with fail
          refine H8.out.mono ?_; rintro e w8 ⟨rfl, rfl⟩
          clear H8
          by_cases hm2 : m < 2 ^ S.ds.length
          rotate_left
          · have hEo : oneE S m f = 11 := by rw [HE3.out, if_neg (show ¬ m ≤ 2 ^ S.ds.length - 1 by omega)]; rfl
            rw [hEo] at HSc ⊢
            rw [decide_eq_false hm2]
            have E_hne : (11 : Nat) ≠ 0 := by decide
            clear hm2 HE3 hEo HJ1 HR1 HRi HRt HWo HFi
            go_wp2_with fail
            go_loopw [9, 10] (fun wv iv wr => wv = .int .i64 11 ∧ iv = .int .i64 0 ∧ w7 = wr) (fun _ _ _ => 0)
            case atStart => exact ⟨rfl, rfl, rfl⟩
            case round =>
              obtain ⟨rfl, rfl, rfl⟩ := hrel
              have hsc := HSc.out E_hne
              have H9 := Lib.hid (rsame14_any w7 c ce0 _ _ (.slice none 0 0) (.slice none 0 0) HC7.out.m (ce0_mem _) HWc.out ce0_w)
              rw [hsc] at H9
              clear hsc HSc
              obtain ⟨r0, r1, r2, r3⟩ := HC7.out.reads
              go_wp2_with fail
              refine H9.out.mono ?_; rintro e w9 ⟨rfl, hb9⟩
              have HB9 := Lib.hid (below_then HB7.out hb9)
              clear hb9 H9 r0 r1 r2 r3
              go_wp2_with fail
              refine (HA.out _ HB9.out).mono ?_; rintro e wA ⟨rfl, hbA⟩
              have HBA := Lib.hid (below_then HB9.out hbA)
              clear hbA
              go_wp2_with fail
              go_ret
              exact ⟨rfl, HBA.out⟩
          · have HE4 := Lib.hid (show oneE S m f = if minB f.is = true then 10 else 0 by rw [HE3.out, if_pos (show m ≤ 2 ^ S.ds.length - 1 by omega)]; rfl)
            rw [decide_eq_true hm2]
            clear hm2 HE3
            have hmi : f.is.length ≤ 9223372036854775807 := HfL.out.2.1
            have HY5 := Lib.hid (fun k (hk : k < f.is.length) h => min_yes hk h)
            have HMn := Lib.hid (@min_no f.is)
            have hsl := Lib.hid (HFi.out _ HB7.out)
            obtain ⟨y0, y1, y2⟩ := row3 HY7.out
            generalize oneE S m f = EE at *
            go_wp2_with fail
            go_loopw [9, 10] (fun wv iv wr => ∃ k : Nat, k ≤ f.is.length ∧ iv = .int .i64 k ∧ w7 = wr ∧ ((wv = .int .i64 0 ∧ Hid (∀ j, j < k → f.is.getD j 0 ≠ -9223372036854775808)) ∨ (wv = .int .i64 10 ∧ Hid (minB f.is = true)))) (fun _ iv _ => f.is.length - (intOf iv).toNat)
            case atStart => exact ⟨0, Nat.zero_le _, rfl, rfl, .inl ⟨rfl, Lib.hid (fun j hj => by omega)⟩⟩
            case round =>
              obtain ⟨k, hk, rfl, rfl, hwv⟩ := hrel
              rcases hwv with ⟨rfl, HJ⟩ | ⟨rfl, HM⟩
              · by_cases hlk : k < f.is.length
                · have hlk' : (k : Int) < (f.is.length : Int) := by omega
                  have hle : Hid (k + 1 ≤ f.is.length) := Lib.hid (by omega)
                  obtain ⟨b, off, rfl, -, g0⟩ := int_at hsl.out hlk
                  by_cases hx : f.is.getD k 0 = -9223372036854775808
                  · have HM := Lib.hid (HY5.out k hlk hx)
                    have hxx : (f.is.getD k 0 == -9223372036854775808) = true := by simpa using hx
                    generalize f.is.getD k 0 = x at *
                    clear hx HJ
                    go_wp2_with fail
                    go_roundw
                    case rel => exact ⟨k + 1, hle.out, by go_num, by trivial, .inr ⟨by trivial, HM⟩⟩
                    case measure => simp [intOf]; omega
                  · have HJ2 := Lib.hid (fun j (hj : j < k + 1) => show f.is.getD j 0 ≠ -9223372036854775808 from if e : j = k then e ▸ hx else HJ.out j (by omega))
                    have hxx : (f.is.getD k 0 == -9223372036854775808) = false := by simpa using hx
                    generalize hgx : f.is.getD k 0 = x at g0 hxx
                    clear hx HJ hgx
                    go_wp2_with fail
                    go_roundw
                    case rel => exact ⟨k + 1, hle.out, by go_num, by trivial, .inl ⟨by trivial, HJ2⟩⟩
                    case measure => simp [intOf]; omega
                · have : k = f.is.length := by omega
                  subst this
                  have hEo : EE = 0 := by rw [HE4.out, HMn.out HJ.out]; rfl
                  subst hEo
                  have hoc := HJ1.out (by first | rfl | trivial)
                  have HOC := Lib.hid hoc
                  have HRt2 := Lib.hid (HRt.out c hoc (by first | rfl | trivial))
                  have HR2 := Lib.hid (fun w1 hb => HR1.out w1 hb (by first | rfl | trivial))
                  have HWo2 := Lib.hid (fun d hd => HWo.out d hd (by first | rfl | trivial))
                  obtain ⟨r0, r1, r2, r3⟩ := HC7.out.reads
                  obtain ⟨x0, x1, x2, x3⟩ := HX7.out.reads
                  clear hoc HJ1 HSc HRt HR1 HWo HE4 HMn HY5 hsl HJ hlk hk
                  go_upto_region 16 with fail
                  have hk : w7.drew.cell? ⟨w.heap.size, 0, none⟩ = some (.slice a1 S.ds.length c1) ∧ w7.drew.cell? ⟨w.heap.size, 1, none⟩ = some (.slice a2 S.is.length c2) ∧ w7.drew.cell? ⟨w.heap.size, 2, none⟩ = some (.slice a3 S.ns.length c3) ∧ w7.drew.cell? ⟨w.heap.size, 3, none⟩ = some (.slice a4 S.vs.length c4) ∧ w7.drew.cell? ⟨w.heap.size + 1, 0, none⟩ = some (.slice p1 f.cs.length d1) ∧ w7.drew.cell? ⟨w.heap.size + 1, 1, none⟩ = some (.slice p2 f.is.length d2) ∧ w7.drew.cell? ⟨w.heap.size + 1, 2, none⟩ = some (.slice p3 f.ns.length d3) ∧ w7.drew.cell? ⟨K, 0, none⟩ = some (.int .u64 c.key) ∧ w7.drew.cell? ⟨K, 1, none⟩ = some (.int .i64 c.cnt) ∧ w7.drew.cell? ⟨K, 2, none⟩ = some (.slice pc c.is.length kc) ∧ w7.drew.cell? ⟨K, 3, none⟩ = some (.slice qc c.ns.length lc) := ⟨x0, x1, x2, x3, y0, y1, y2, r0, r1, r2, r3⟩
                  have hBw : Below w7.heap.size w7 w7.drew := (Below.refl _ _).drew
                  clear x0 x1 x2 x3 y0 y1 y2 r0 r1 r2 r3
                  go_region_held3 (fun w' => w'.cell? ⟨w.heap.size, 0, none⟩ = some (.slice a1 S.ds.length c1) ∧ w'.cell? ⟨w.heap.size, 1, none⟩ = some (.slice a2 S.is.length c2) ∧ w'.cell? ⟨w.heap.size, 2, none⟩ = some (.slice a3 S.ns.length c3) ∧ w'.cell? ⟨w.heap.size, 3, none⟩ = some (.slice a4 S.vs.length c4) ∧ w'.cell? ⟨w.heap.size + 1, 0, none⟩ = some (.slice p1 f.cs.length d1) ∧ w'.cell? ⟨w.heap.size + 1, 1, none⟩ = some (.slice p2 f.is.length d2) ∧ w'.cell? ⟨w.heap.size + 1, 2, none⟩ = some (.slice p3 f.ns.length d3) ∧ w'.cell? ⟨K, 0, none⟩ = some (.int .u64 c.key) ∧ w'.cell? ⟨K, 1, none⟩ = some (.int .i64 c.cnt) ∧ w'.cell? ⟨K, 2, none⟩ = some (.slice pc c.is.length kc) ∧ w'.cell? ⟨K, 3, none⟩ = some (.slice qc c.ns.length lc)) (with_reducible exact hk)
                    (first
                      | (go_at_call 17; refine (HR2.out _ (below_then HB7.out hBw)).mono ?_; rintro e wa ⟨d, pd, kd, qd, ld, rfl, hdm, hdo, hb⟩; have hk := hold11 hb hk; have hBw := below_then hBw hb; have HDm := Lib.hid hdm; have HDo := Lib.hid hdo; clear hb hdm hdo)
                      | (go_at_call 16; have hs := OC.same HOC.out HDo.out; have H9 := rsame14_any _ c d _ _ _ _ (HC7.out.m.below hBw) HDm.out HWc.out (HWo2.out d HDo.out); rw [hs] at H9; refine H9.mono ?_; rintro e wb ⟨rfl, hb⟩; have hk := hold11 hb hk; have hBw := below_then hBw hb; clear hb hs H9)
                      | (go_at_call 18; have H9 := HRi.out _ _ _ c (below_then HB7.out hBw) (HC7.out.m.below hBw) HWc.out; rw [HRt2.out] at H9; refine H9.mono ?_; rintro e wb ⟨rfl, hb⟩; have hk := hold11 hb hk; have hBw := below_then hBw hb; clear hb H9)
                      | (go_at_call 10; refine (HA.out _ (below_then HB7.out hBw)).mono ?_; rintro e wb ⟨rfl, hb⟩; have hk := hold11 hb hk; have hBw := below_then hBw hb; clear hb))
                  have HBZ := Lib.hid (below_then HB7.out hBw)
                  clear hk hBw
                  go_wp2_with fail
                  go_ret
                  exact ⟨rfl, HBZ.out⟩
              · have hEo : EE = 10 := by rw [HE4.out, HM.out]; rfl
                subst hEo
                have E_hne : (10 : Nat) ≠ 0 := by decide
                clear HE4 HMn HY5 HJ1 HR1 HRi HRt HWo hsl HM
                have hsc := HSc.out E_hne
                have H9 := Lib.hid (rsame14_any w7 c ce0 _ _ (.slice none 0 0) (.slice none 0 0) HC7.out.m (ce0_mem _) HWc.out ce0_w)
                rw [hsc] at H9
                clear hsc HSc
                obtain ⟨r0, r1, r2, r3⟩ := HC7.out.reads
                go_wp2_with fail
                refine H9.out.mono ?_; rintro e w9 ⟨rfl, hb9⟩
                have HB9 := Lib.hid (below_then HB7.out hb9)
                clear hb9 H9 r0 r1 r2 r3
                go_wp2_with fail
                refine (HA.out _ HB9.out).mono ?_; rintro e wA ⟨rfl, hbA⟩
                have HBA := Lib.hid (below_then HB9.out hbA)
                clear hbA
                go_wp2_with fail
                go_ret
                exact ⟨rfl, HBA.out⟩
set_option maxRecDepth 100000 in
theorem lifted (os : Os) (started : os.Started) (H : Type) (enc : TypeId × Value → H) :
    ReturnsInHanded {} Tryz.checked os 3 .any (fun w args => (Rows.aggOnesSpec.pre enc Tryz.prog Tryz.f3 [] false w args ∧ laidMetH Tryz.prog laid3 w) ∧ sizedMet enc Tryz.prog Tryz.f3 (OpenSpec.ofChange Rows.aggOnesSpec) false w args)
      (Rows.aggOnesSpec.post enc Tryz.prog Tryz.f3 false true false false) := by
  refine returnsInHanded_of_change_and (C := Tryz.checked) (X := fun w _ => laidMetH Tryz.prog laid3 w) (fun _ _ _ hh h => h.of_heap hh) own2 started (by kernel_rfl) Tryz.func3
    (ChangeSpec.witness_shaped (enc := enc) (C := Tryz.checked) (os := os) (X := fun w _ => laidMetH Tryz.prog laid3 w) false (World.doorLaid Tryz.prog 800 os) #[.agg #[.slice none 0 0, .slice none 0 0, .slice none 0 0, .slice none 0 0], .int .u32 0, .agg #[.slice none 0 0, .slice none 0 0, .slice none 0 0]] 8 rfl (World.shaped_of_RefB (by kernel_rfl) (by kernel_rfl)) (by kernel_rfl) (by kernel_rfl) (by kernel_rfl) (door_met3 os _)) ?_
  intro W base args ds gs before hval0 hW _ _ hL _
  have hTab := tab_of3 hL
  have hTab64 := tab64_of3 hL
  have hval : ∀ (j : Nat) t v, Tryz.f3.params[j]? = some t → args[j]? = some v → Value.okWide Tryz.prog W .any base t v := hval0
  have hW' := hW
  obtain ⟨p, q, hA0, hV, rfl, hfz, hnd⟩ := hW
  have hA : DataW.TrodAll enc Tryz.prog W 0 (fun _ => true) true Tryz.f3.params.toList args.toList ds p := hA0
  rw [Tryz.params3] at hA hval
  obtain ⟨v0, vs0, d0, ds0, p0, q0, hargs, rfl, rfl, h0, r0⟩ := trodAll_cons hA
  obtain ⟨v1, vs1, d1, ds1, p1, q1, rfl, rfl, rfl, h1, r1⟩ := trodAll_cons r0
  obtain ⟨v2, vs2, d2, ds2, p2, q2, rfl, rfl, rfl, h2, r2⟩ := trodAll_cons r1
  obtain ⟨rfl, rfl, rfl⟩ := trodAll_nil r2
  obtain rfl : args = #[v0, v1, v2] := by cases args; simp_all
  obtain ⟨rfl, rfl⟩ := trodVars_none hV
  have k0 := h0
  have lt0 : ∀ x ∈ p0, x.block < W.heap.size := by obtain ⟨m, hm⟩ := k0; exact DataW.trod_lt m _ _ _ hm
  obtain ⟨D0, I0, N0, V0, S0, rfl, s0, w0⟩ := schema_of (hval 0 26 v0 rfl rfl) h0
  obtain ⟨a1, rfl, rfl, rfl, w1⟩ := open_int Tryz.underlying27 (hval 1 27 v1 rfl rfl) h1
  have k2 := h2
  have lt2 : ∀ x ∈ p2, x.block < W.heap.size := by obtain ⟨m, hm⟩ := k2; exact DataW.trod_lt m _ _ _ hm
  obtain ⟨C2, J2, X2, f2, rfl, s2, w2⟩ := fact_of (hval 2 32 v2 rfl rfl) h2
  clear hA0 hval0
  refine (walk D0 I0 N0 V0 S0 a1 C2 J2 X2 f2 W s0 w0 (bounds_u32 w1) s2 w2 hTab hTab64).mono fun e W' ⟨he, bel⟩ => ?_
  subst he
  exact ⟨_, rfl, _, _, _, [], _, [], hW', trodAll_mk1 (shut_bool Tryz.underlying4 _), (trodAll_cons_mk (Below.trod laidOut2 (by kernel_rfl) (of_decide_eq_true (by kernel_rfl)) k0 bel lt0) (trodAll_cons_mk (shut_int Tryz.underlying27 w1) (trodAll_cons_mk (Below.trod laidOut2 (by kernel_rfl) (of_decide_eq_true (by kernel_rfl)) k2 bel lt2) trodAll_mk0))), rfl, bel.frame _, fun h => by cases h⟩

theorem over : Rows.aggOnesRow.holds Tryz.pinned (OpenSpec.ofChange Rows.aggOnesSpec) :=
  OpenClaim.holds_of_wide 3 Tryz.f3 rfl rfl rfl rfl rfl rfl rfl ⟨rfl, rfl, rfl, rfl, rfl⟩ rfl rfl rfl rfl rfl (by kernel_rfl) Tryz.func3 (by kernel_rfl)
    (of_decide_eq_true (by kernel_rfl)) (by unfold Func.isWrapper; first | (rw [if_pos (by decide +kernel)]; kernel_rfl) | (rw [if_neg (by decide +kernel)]; exact ⟨rfl, rfl⟩))
    (fun os started H enc _ => lifted os started H enc)
theorem row_holds : Rows.AggOnesSaid := over
end Go.Proofs.YtigikgphipebiaaGreatDoor.aggOnes
namespace Go.Proofs.YtigikgphipebiaaGreatDoor
/-- The statement: the tied card. -/
theorem aggOnes_holds : Rows.AggOnesCardSaid :=
  Claim7.holds_tied_plain_at .later [] [.data, .data] true _ false
    aggOnes.row_holds (fun _ h => by cases h) (by kernel_rfl) (fun _ h => by cases h) aggOnes_row_tie rfl ⟨rfl, rfl⟩ (by kernel_rfl) rfl
    (fun f fn hf hfn => by
      obtain rfl : f = 3 := Option.some.inj ((show Tryz.prog.funcNamed "bushel/bushellaw14.AggOnes" = some 3 by kernel_rfl).symm.trans hf) |>.symm
      obtain rfl : fn = Tryz.f3 := (Option.some.inj (Tryz.func3.symm.trans hfn)).symm
      exact ⟨by kernel_rfl, fun j t ht => by
        rw [Tryz.params3] at ht
        have hm : t ∈ [26, 27, 32] := by simpa using Array.mem_of_getElem? ht
        have hall : ([26, 27, 32].all fun u => !Tryz.prog.wantsStandIn u) = true := by kernel_rfl
        exact (show Tryz.prog.wantsStandIn t = false by simpa using List.all_eq_true.1 hall t hm)⟩)
    (by kernel_rfl)
#print axioms aggOnes_holds
end Go.Proofs.YtigikgphipebiaaGreatDoor
