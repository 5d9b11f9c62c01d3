/- Layer 12: the reference's Batch; facts as they come in. -/
import Derived.Test.YtdnbjaeeebodkaaFacj
import Derived.Test.YtdnbjaeeebodkaaSchm
namespace Go.Proofs.Ytdnbjaeeebodkaa
set_option maxRecDepth 100000
open Go.RowKit Go.ChangeShapes Go.WideShapes Go.Deep
set_option linter.unusedVariables false
theorem seven_hold {w w' : World} (hb : Below w.heap.size w w') {p0 p1 p2 p3 q0 q1 q2 : Addr} {a0 a1 a2 a3 b0 b1 b2 : Value}
    (h : w.cell? p0 = some a0 ∧ w.cell? p1 = some a1 ∧ w.cell? p2 = some a2 ∧ w.cell? p3 = some a3 ∧ w.cell? q0 = some b0 ∧ w.cell? q1 = some b1 ∧ w.cell? q2 = some b2) :
    w'.cell? p0 = some a0 ∧ w'.cell? p1 = some a1 ∧ w'.cell? p2 = some a2 ∧ w'.cell? p3 = some a3 ∧ w'.cell? q0 = some b0 ∧ w'.cell? q1 = some b1 ∧ w'.cell? q2 = some b2 :=
  ⟨cell_hold hb h.1, cell_hold hb h.2.1, cell_hold hb h.2.2.1, cell_hold hb h.2.2.2.1, cell_hold hb h.2.2.2.2.1, cell_hold hb h.2.2.2.2.2.1, cell_hold hb h.2.2.2.2.2.2⟩
set_option maxHeartbeats 8000000 in
theorem rbatch_any (w : World) (D I M V v : Value) (S : Sc) (l : List Fa) (h : Sch4 w D I M V S) (hw : SWf S) (hv : Facts w v l) (hf : ∀ f ∈ l, FaWf f) :
    Calls Try.prog 9 #[SchV D I M V, v] w fun e w' => e = .returned (PairL S l) ∧ Below w.heap.size w w' := by
  have HB := Lib.hid (below_one w (SchO D I M V))
  have HX := Lib.hid (box_new w D I M V)
  have HC := Lib.hid (rcheck_any (w.alloc (SchO D I M V)) D I M V S (h.below HB.out) hw)
  have HF := Lib.hid (fun w1 k (hk : k < l.length) C J N (h1 : Fact3 w C J N l[k]) (hb1 : Below w.heap.size w w1) => rfits_any w1 D I M V C J N S l[k] (h.below hb1) (h1.below hb1) (hf _ (List.getElem_mem hk)))
  obtain ⟨⟨a, c, rfl⟩, ⟨a2, c2, rfl⟩, ⟨a3, c3, rfl⟩, a4, c4, rfl⟩ := h.slices
  obtain ⟨b0, cap, rfl, h1, hmx, h3⟩ := hv
  have HV := Lib.hid h3
  obtain ⟨x0, x1, x2, x3⟩ := HX.out.reads
  clear h3 h1 h
  generalize hW : w.alloc (SchO (.slice a S.ds.length c) (.slice a2 S.is.length c2) (.slice a3 S.ns.length c3) (.slice a4 S.vs.length c4)) = W at *
  by_cases hc : checkL S = 0
  · rw [hc] at HC
    by_cases hl : l.length < 1 ∨ 200 < l.length
    · rw [pair_many hc hl]
      clear hc hw HF hf
      by_cases h0 : l.length < 1
      · have h0' : (l.length : Int) < 1 := by omega
        have e0 : decide ((l.length : Int) < 1) = true := decide_eq_true h0'
        clear hl h0 h0'
        go_enter Try.func9, Try.ntmps9
        go_wp2_with fail
        refine (HC.out).mono ?_; rintro e w1 ⟨rfl, hb1⟩
        have HB1 := Lib.hid (below_then HB.out hb1)
        clear hb1
        go_wp2_with fail
        go_ret2
        exact ⟨rfl, HB1.out⟩
      · have h0' : ¬ (l.length : Int) < 1 := by omega
        have e0 : decide ((l.length : Int) < 1) = false := decide_eq_false h0'
        have hq : (200 : Int) < (l.length : Int) := by omega
        have e1 : decide ((200 : Int) < (l.length : Int)) = true := decide_eq_true hq
        clear hl h0 h0' hq
        go_enter Try.func9, Try.ntmps9
        go_wp2_with fail
        refine (HC.out).mono ?_; rintro e w1 ⟨rfl, hb1⟩
        have HB1 := Lib.hid (below_then HB.out hb1)
        clear hb1
        go_wp2_with fail
        go_ret2
        exact ⟨rfl, HB1.out⟩
    · have HPG := Lib.hid (fun h => pair_good (S := S) (l := l) hc hl h)
      have HPB := Lib.hid (fun k hk h h2 => pair_bad (S := S) (l := l) hc hl (k := k) hk h h2)
      have h0' : ¬ (l.length : Int) < 1 := by omega
      have e0 : decide ((l.length : Int) < 1) = false := decide_eq_false h0'
      have hq : ¬ (200 : Int) < (l.length : Int) := by omega
      have e1 : decide ((200 : Int) < (l.length : Int)) = false := decide_eq_false hq
      clear hl hc hw hf h0' hq
      generalize PairL S l = P at *
      go_enter Try.func9, Try.ntmps9
      go_wp2_with fail
      refine (HC.out).mono ?_; rintro e w1 ⟨rfl, hb1⟩
      have HB1 := Lib.hid (And.intro (below_then HB.out hb1) (HX.out.below hb1))
      clear hb1 x0 x1 x2 x3 hW
      go_wp2_with fail
      go_loopw [6] (fun i wr => ∃ k : Nat, k ≤ l.length ∧ i = .int .i64 k ∧ Hid (Below w.heap.size w wr ∧ Box wr w.heap.size (.slice a S.ds.length c) (.slice a2 S.is.length c2) (.slice a3 S.ns.length c3) (.slice a4 S.vs.length c4)) ∧ Hid (∀ j, j < k → ∀ h : j < l.length, ((fitsL S l[j] : Nat) : Int) = 0)) (fun i _ => l.length - (intOf i).toNat)
      case atStart => exact ⟨0, Nat.zero_le _, rfl, HB1, Lib.hid (fun j hj => by omega)⟩
      case round =>
        obtain ⟨k, hk, rfl, HD, HJ⟩ := hrel
        by_cases hlk : k < l.length
        · have hlk' : (k : Int) < (l.length : Int) := by omega
          rcases HV.out with h3 | ⟨b, off, rfl, hlt, hcc⟩
          · rw [h3] at hlk; simp at hlk
          obtain ⟨C, J, N, hx, hf⟩ := hcc k hlk
          have hy := tri_hold HD.out.1 hx
          have HFk := Lib.hid (fun w1 hb => HF.out w1 k hlk _ _ _ hf hb)
          obtain ⟨⟨pa, pc, rfl⟩, ⟨pa2, pc2, rfl⟩, pa3, pc3, rfl⟩ := hf.slices
          have hxs := HD.out.2.reads
          have hk7 := And.intro hxs.1 (And.intro hxs.2.1 (And.intro hxs.2.2.1 (And.intro hxs.2.2.2 (And.intro hy.1 (And.intro hy.2.1 hy.2.2)))))
          have HPk := Lib.hid (fun h => HPB.out k hlk HJ.out h)
          have HJk := Lib.hid (fun (h : ((fitsL S l[k] : Nat) : Int) = 0) => upto_next (P := fun j => ∀ h : j < l.length, ((fitsL S l[j] : Nat) : Int) = 0) HJ.out (fun _ => h))
          clear hcc hx hf hy hxs
          generalize ((fitsL S l[k] : Nat) : Int) = R at *
          generalize l[k].cs.length = s1 at *
          generalize l[k].is.length = s2 at *
          generalize l[k].ns.length = s3 at *
          go_upto_region 8 with fail
          have hk := seven_hold (Below.refl wr.heap.size wr).drew hk7
          have hBw : Below w.heap.size w wr.drew := HD.out.1.drew
          have hBx : Box wr.drew w.heap.size (.slice a S.ds.length c) (.slice a2 S.is.length c2) (.slice a3 S.ns.length c3) (.slice a4 S.vs.length c4) := HD.out.2.below (Below.refl wr.heap.size wr).drew
          clear hk7
          by_cases hR : R = 0
          · have HJ2 := Lib.hid (HJk.out hR)
            subst hR
            go_region_held3 (fun w' => w'.cell? ⟨w.heap.size, 0, none⟩ = some (.slice a S.ds.length c) ∧ w'.cell? ⟨w.heap.size, 1, none⟩ = some (.slice a2 S.is.length c2) ∧ w'.cell? ⟨w.heap.size, 2, none⟩ = some (.slice a3 S.ns.length c3) ∧ w'.cell? ⟨w.heap.size, 3, none⟩ = some (.slice a4 S.vs.length c4) ∧ w'.cell? ⟨b, off + k * 3, none⟩ = some (.slice pa s1 pc) ∧ w'.cell? ⟨b, off + k * 3 + 1, none⟩ = some (.slice pa2 s2 pc2) ∧ w'.cell? ⟨b, off + k * 3 + 2, none⟩ = some (.slice pa3 s3 pc3)) (with_reducible exact hk)
              ((go_at_call 11; refine (HFk.out _ hBw).mono ?_; rintro r w4 ⟨rfl, hb2⟩; have hk := seven_hold hb2 hk; have hBw := below_then hBw hb2; have hBx := hBx.below hb2; clear hb2))
            have HD3 := Lib.hid (And.intro hBw hBx)
            clear hBw hBx hk
            go_wp2_with fail
            go_roundw
            case rel => exact ⟨k + 1, by omega, by go_num, HD3, HJ2⟩
            case measure => simp [intOf]; omega
          · have hP := HPk.out hR
            subst hP
            have hR2 : (R != 0) = true := by simpa using hR
            clear HPk HJk hR
            go_region_held3 (fun w' => w'.cell? ⟨w.heap.size, 0, none⟩ = some (.slice a S.ds.length c) ∧ w'.cell? ⟨w.heap.size, 1, none⟩ = some (.slice a2 S.is.length c2) ∧ w'.cell? ⟨w.heap.size, 2, none⟩ = some (.slice a3 S.ns.length c3) ∧ w'.cell? ⟨w.heap.size, 3, none⟩ = some (.slice a4 S.vs.length c4) ∧ w'.cell? ⟨b, off + k * 3, none⟩ = some (.slice pa s1 pc) ∧ w'.cell? ⟨b, off + k * 3 + 1, none⟩ = some (.slice pa2 s2 pc2) ∧ w'.cell? ⟨b, off + k * 3 + 2, none⟩ = some (.slice pa3 s3 pc3)) (with_reducible exact hk)
              ((go_at_call 11; refine (HFk.out _ hBw).mono ?_; rintro r w4 ⟨rfl, hb2⟩; have hk := seven_hold hb2 hk; have hBw := below_then hBw hb2; have hBx := hBx.below hb2; clear hb2))
            have HK2 := Lib.hid (And.intro hk hBw)
            clear hBw hBx hk
            go_upto_region 9 with fail
            have hk := seven_hold (Below.refl w4.heap.size w4).drew HK2.out.1
            have hBw : Below w.heap.size w w4.drew := HK2.out.2.drew
            go_region_held3 (fun w' => w'.cell? ⟨w.heap.size, 0, none⟩ = some (.slice a S.ds.length c) ∧ w'.cell? ⟨w.heap.size, 1, none⟩ = some (.slice a2 S.is.length c2) ∧ w'.cell? ⟨w.heap.size, 2, none⟩ = some (.slice a3 S.ns.length c3) ∧ w'.cell? ⟨w.heap.size, 3, none⟩ = some (.slice a4 S.vs.length c4) ∧ w'.cell? ⟨b, off + k * 3, none⟩ = some (.slice pa s1 pc) ∧ w'.cell? ⟨b, off + k * 3 + 1, none⟩ = some (.slice pa2 s2 pc2) ∧ w'.cell? ⟨b, off + k * 3 + 2, none⟩ = some (.slice pa3 s3 pc3)) (with_reducible exact hk)
              ((go_at_call 11; refine (HFk.out _ hBw).mono ?_; rintro r w5 ⟨rfl, hb2⟩; have hk := seven_hold hb2 hk; have hBw := below_then hBw hb2; clear hb2))
            have HB9 := Lib.hid hBw
            clear hBw hk
            go_wp2_with fail
            go_ret2
            exact ⟨rfl, HB9.out⟩
        · have hke : k = l.length := by omega
          subst hke
          have hP := HPG.out HJ.out
          subst hP
          go_wp2_with fail
          go_ret2
          exact ⟨rfl, HD.out.1⟩
  · rw [pair_no hc]
    have hc2 : ((checkL S : Int) != 0) = true := by simp; omega
    generalize (checkL S : Int) = ck at *
    clear hc hw HF hf
    go_enter Try.func9, Try.ntmps9
    go_wp2_with fail
    refine (HC.out).mono ?_; rintro e w1 ⟨rfl, hb1⟩
    have HB1 := Lib.hid (below_then HB.out hb1)
    clear hb1
    go_wp2_with fail
    go_ret2
    exact ⟨rfl, HB1.out⟩
theorem facts_of {H : Type} {enc : TypeId × Value → H} {w : World} {base : Nat} {spare : Nat → Bool} {held : Bool} {v : Value} {d : DataW H} {p : List MemPlace}
    (h : DataW.Trod enc Try.prog w base spare held 27 v d p) (hs : ∃ a l c, v = .slice a l c) : ∃ l, Facts w v l ∧ ∀ f ∈ l, FaWf f :=
  facts_gen Try.underlying27 (by kernel_rfl)
    (fun h => read_three Try.underlying42 (by kernel_rfl) rfl rfl rfl Try.underlying38 Try.underlying39 Try.underlying40 (by kernel_rfl) (by kernel_rfl) (by kernel_rfl)
      Try.underlying3 Try.underlying2 Try.underlying65 (by kernel_rfl) (by kernel_rfl) (by kernel_rfl) h) h hs
end Go.Proofs.Ytdnbjaeeebodkaa
