/- Layer 11: the reference's Same of a schema and the same. -/
import Derived.Test.YtdlebcjkokabjaaSchk
namespace Go.Proofs.Ytdlebcjkokabjaa
set_option maxRecDepth 100000
open Go.RowKit
set_option linter.unusedVariables false
theorem two_boxes (w : World) (D I M V D' I' M' V' : Value) (W : World) (hW : (w.alloc (SchO D I M V)).alloc (SchO D' I' M' V') = W) :
    Below w.heap.size w W ∧ Box W w.heap.size D I M V ∧ Box W (w.heap.size + 1) D' I' M' V' := by
  subst hW
  have hz : (w.alloc (SchO D I M V)).heap.size = w.heap.size + 1 := by simp
  have k2 := box_new (w.alloc (SchO D I M V)) D' I' M' V'
  rw [hz] at k2
  exact ⟨below_then (below_one _ _) (below_one _ _), (box_new w D I M V).below (below_one _ _), k2⟩
set_option maxHeartbeats 4000000 in
theorem schsame_any (w : World) (D I M V D' I' M' V' : Value) (S : Sc) (h : Sch4 w D I M V S) (h' : Sch4 w D' I' M' V' S) (hl : S.vs.length ≤ 1000) :
    Calls Try.prog 21 #[SchV D I M V, SchV D' I' M' V'] w fun e w' => e = .returned (.bool true) ∧ Below w.heap.size w w' := by
  obtain ⟨W, hW⟩ : ∃ W, (w.alloc (SchO D I M V)).alloc (SchO D' I' M' V') = W := ⟨_, rfl⟩
  obtain ⟨hb, hx, hx'⟩ := two_boxes w D I M V D' I' M' V' W hW
  have HB := Lib.hid hb
  have HX := Lib.hid (And.intro hx hx')
  have HS := Lib.hid (fun w1 (hd : Drawn W w1) => rsame_any I I' S.is w1 (h.i.below (below_then hb hd.below)) (h'.i.below (below_then hb hd.below)))
  have HS2 := Lib.hid (fun w1 (hd : Drawn W w1) => rsame_any M M' S.ns w1 (h.n.below (below_then hb hd.below)) (h'.n.below (below_then hb hd.below)))
  have HM := Lib.hid (fun w1 (hd : Drawn W w1) => masks_any V V' S.vs w1 (h.v.below (below_then hb hd.below)) (h'.v.below (below_then hb hd.below)) hl)
  obtain ⟨⟨a, c, rfl⟩, ⟨a2, c2, rfl⟩, ⟨a3, c3, rfl⟩, a4, c4, rfl⟩ := h.slices
  obtain ⟨⟨b, d, rfl⟩, ⟨b2, d2, rfl⟩, ⟨b3, d3, rfl⟩, b4, d4, rfl⟩ := h'.slices
  obtain ⟨a', cap', e', -, hdl, h3⟩ := h.d
  injection e' with e1 e2 e3
  subst e1 e3
  obtain ⟨a', cap', e', -, -, h3'⟩ := h'.d
  injection e' with e1 e4 e3
  subst e1 e3
  have HC := Lib.hid h3
  have HC' := Lib.hid h3'
  obtain ⟨x0, x1, x2, x3⟩ := hx.reads
  obtain ⟨y0, y1, y2, y3⟩ := hx'.reads
  clear h h' h3 h3' hb hx hx' e2 e4
  go_enter Try.func21, Try.ntmps21
  go_wp2_with fail
  refine (HS.out _ (Drawn.refl _)).mono ?_; rintro e w1 ⟨rfl, hd⟩
  have HD1 := Lib.hid hd
  have hb1 := hd.below
  clear x0 x1 x2 x3 y0 y1 y2 y3 hd hW
  obtain ⟨x0, x1, x2, x3⟩ := (HX.out.1.below hb1).reads
  obtain ⟨y0, y1, y2, y3⟩ := (HX.out.2.below hb1).reads
  clear hb1
  go_wp2_with fail
  refine (HS2.out _ HD1.out).mono ?_; rintro e w2 ⟨rfl, hd⟩
  have HD2 := Lib.hid (HD1.out.trans hd)
  have hb1 := HD2.out.below
  clear x0 x1 x2 x3 y0 y1 y2 y3 hd
  obtain ⟨x0, x1, x2, x3⟩ := (HX.out.1.below hb1).reads
  obtain ⟨y0, y1, y2, y3⟩ := (HX.out.2.below hb1).reads
  clear hb1
  go_wp2_with fail
  refine (HM.out _ HD2.out).mono ?_; rintro e w3 ⟨rfl, hd⟩
  have HD3 := Lib.hid (HD2.out.trans hd)
  clear x0 x1 x2 x3 y0 y1 y2 y3 hd
  go_wp2_with fail
  go_loopw [5] (fun i wr => ∃ k : Nat, k ≤ S.ds.length ∧ i = .int .i64 k ∧ Hid (Drawn W wr)) (fun i _ => S.ds.length - (intOf i).toNat)
  case atStart => exact ⟨0, Nat.zero_le _, rfl, HD3⟩
  case round =>
    obtain ⟨k, hk, rfl, HD⟩ := hrel
    obtain ⟨x0, x1, x2, x3⟩ := (HX.out.1.below HD.out.below).reads
    obtain ⟨y0, y1, y2, y3⟩ := (HX.out.2.below HD.out.below).reads
    by_cases hlk : k < S.ds.length
    · have hlk' : (k : Int) < (S.ds.length : Int) := by omega
      rcases HC.out with h3 | ⟨g, off, rfl, hlt, hc⟩
      · rw [h3] at hlk; simp at hlk
      rcases HC'.out with h3 | ⟨g', off', rfl, hlt', hc'⟩
      · rw [h3] at hlk; simp at hlk
      have hbw := below_then HB.out HD.out.below
      obtain ⟨p0, p1⟩ := hc k hlk
      obtain ⟨q0, q1⟩ := hc' k hlk
      have p0 := cell_hold hbw p0
      have p1 := cell_hold hbw p1
      have q0 := cell_hold hbw q0
      have q1 := cell_hold hbw q1
      have e := toL_same (dn S.ds k)
      have HN := Lib.hid (fun n => HD.out.next n)
      clear hc hc' hbw
      generalize dn S.ds k = x at *
      generalize dz S.ds k = z at *
      go_upto_region 6 with fail
      go_quiet (fail)
      have HD4 := Lib.hid (HN.out nq)
      go_wp2
      go_roundw
      case rel => exact ⟨k + 1, by omega, by go_num, HD4⟩
      case measure => simp [intOf]; omega
    · have : k = S.ds.length := by omega
      subst this
      go_wp2_with fail
      go_ret
      exact ⟨rfl, below_then HB.out HD.out.below⟩
end Go.Proofs.Ytdlebcjkokabjaa
