/- Layer 11: the reference's Full, Views, Masks, Keys, names. -/
import Derived.Test.YtdlebcjkokabjaaSchg
import Derived.BigQuiet
import Derived.Deep.QuietTactic
namespace Go.Proofs.Ytdlebcjkokabjaa
set_option maxRecDepth 100000
open Go.RowKit
set_option linter.unusedVariables false
theorem rfull_any (w : World) (D I M V : Value) (S : Sc) (h : Sch4 w D I M V S) (hn : S.ds.length ≤ 6) :
    Calls Try.prog 13 #[SchV D I M V] w fun e w' => e = .returned (.int .u32 (fullL S.ds)) ∧ Below w.heap.size w w' := by
  obtain ⟨⟨a, c, rfl⟩, -, -, -⟩ := h.slices
  have HB := Lib.hid (below_one w (SchO (.slice a S.ds.length c) I M V))
  have HT := Lib.hid (fun w => two_any w S.ds.length (by omega))
  have hf := full_wrap hn
  have hf0 : IntKind.u32.wrap ((2 : Int) ^ S.ds.length - 1) = 2 ^ S.ds.length - 1 := by rw [IntKind.wrap_u32]; exact hf.1
  have HE := Lib.hid (show fullL S.ds = 2 ^ S.ds.length - 1 from rfl)
  clear h hf
  generalize (2 : Int) ^ S.ds.length = p at *
  rw [HE.out]
  go_enter Try.func13, Try.ntmps13
  go_wp2_with fail
  refine (HT.out _).mono ?_; rintro e w1 ⟨rfl, rfl⟩
  go_wp2_with fail
  go_ret
  exact ⟨rfl, HB.out⟩
set_option maxHeartbeats 2000000 in
theorem rviews_any (w : World) (D I M V : Value) (S : Sc) (h : Sch4 w D I M V S) (hcn : cntB S = true) :
    Calls Try.prog 15 #[SchV D I M V] w fun e w' => (∃ v, e = .returned v ∧ Ints .u32 w' v (fullL S.ds :: S.vs)) ∧ Below w.heap.size w w' := by
  obtain ⟨i0, hi, hz0, hz1, hz2⟩ := info_parts Try.infoU32
  have hcc := cnt_iff.1 hcn
  have HB0 := Lib.hid (below_one w (SchO D I M V))
  have hx0 := box_new w D I M V
  have HF := Lib.hid (fun w1 (hb : Below w.heap.size w w1) => rfull_any w1 D I M V S (h.below hb) hcc.2.1)
  have HH := Lib.hid h
  obtain ⟨⟨a, c, rfl⟩, ⟨a2, c2, rfl⟩, ⟨a3, c3, rfl⟩, a4, c4, rfl⟩ := h.slices
  obtain ⟨x0, x1, x2, x3⟩ := hx0.reads
  clear h hx0 hcn
  go_enter Try.func15, Try.ntmps15
  go_upto_region 1 with fail
  have hk : (w.alloc (SchO (.slice a S.ds.length c) (.slice a2 S.is.length c2) (.slice a3 S.ns.length c3) (.slice a4 S.vs.length c4))).drew.cell? ⟨w.heap.size, 0, none⟩ = some (.slice a S.ds.length c) ∧ (w.alloc (SchO (.slice a S.ds.length c) (.slice a2 S.is.length c2) (.slice a3 S.ns.length c3) (.slice a4 S.vs.length c4))).drew.cell? ⟨w.heap.size, 1, none⟩ = some (.slice a2 S.is.length c2) ∧ (w.alloc (SchO (.slice a S.ds.length c) (.slice a2 S.is.length c2) (.slice a3 S.ns.length c3) (.slice a4 S.vs.length c4))).drew.cell? ⟨w.heap.size, 2, none⟩ = some (.slice a3 S.ns.length c3) ∧ (w.alloc (SchO (.slice a S.ds.length c) (.slice a2 S.is.length c2) (.slice a3 S.ns.length c3) (.slice a4 S.vs.length c4))).drew.cell? ⟨w.heap.size, 3, none⟩ = some (.slice a4 S.vs.length c4) := ⟨by simp [x0], by simp [x1], by simp [x2], by simp [x3]⟩
  have hBw := HB0.out.drew
  generalize (w.alloc (SchO (.slice a S.ds.length c) (.slice a2 S.is.length c2) (.slice a3 S.ns.length c3) (.slice a4 S.vs.length c4))) = W0 at *
  clear x0 x1 x2 x3
  go_region_held3 (fun w' => w'.cell? ⟨w.heap.size, 0, none⟩ = some (.slice a S.ds.length c) ∧ w'.cell? ⟨w.heap.size, 1, none⟩ = some (.slice a2 S.is.length c2) ∧ w'.cell? ⟨w.heap.size, 2, none⟩ = some (.slice a3 S.ns.length c3) ∧ w'.cell? ⟨w.heap.size, 3, none⟩ = some (.slice a4 S.vs.length c4)) ((first | (with_reducible exact hk) | exact quad_hold (below_one _ _) hk))
    (first
      | (go_at_call 13; refine (HF.out _ hBw).mono ?_; rintro r w2 ⟨rfl, hb2⟩; have hk := quad_hold hb2 hk; have hBw := below_then hBw hb2; clear hb2)
      | (refine step_append_ints _ (by rfl) _ _ _ (by rfl) w.heap.size 27 i0 (.int .u32 0) 4 Try.underlying24 hi hz0 hz1 hz2 (by rfl) .u32 _ _ [fullL S.ds] S.vs (by rfl) (by rfl) (World.ownsRow_lit w2 #[.int .u32 (fullL S.ds)] 1 (by have := hBw.size; omega) (by unfold maxLen; omega) rfl) (HH.out.v.below (below_then hBw (below_one _ _))) (by unfold maxLen; simp; omega) (by simp; omega) (by have := hBw.size; simp; omega) ?_; intro v' w3 hown hgrow; have HQ := Lib.hid hown; have hg := lit_grown hgrow; have hk := quad_hold hg hk; have hBw := below_then hBw hg; obtain ⟨pv', lv', cv', rfl⟩ := own_slice3 hown; clear hown hgrow hg))
  have HB3 := Lib.hid hBw
  have HI := Lib.hid (Ints.own HQ.out)
  clear HQ
  go_wp2_with fail
  go_ret
  exact ⟨⟨_, rfl, HI.out⟩, HB3.out⟩
set_option maxHeartbeats 2000000 in
theorem masks_any (u v : Value) (l : List Int) (w : World) (hu : Ints .u32 w u l) (hv : Ints .u32 w v l) (hl : l.length ≤ 1000) :
    Calls Try.prog 14 #[u, v] w fun e w' => e = .returned (.bool true) ∧ Drawn w w' := by
  obtain ⟨a, cap, rfl, h1, h3⟩ := hu
  obtain ⟨a', cap', rfl, h1', h3'⟩ := hv
  rcases h3 with rfl | ⟨b, off, rfl, hlt, hc⟩
  · go_enter Try.func14, Try.ntmps14
    go_wp2
    refine wp_loop_rounds 1 ?_
    rw [rounds_succ]
    go_wp2
    go_ret
    exact ⟨rfl, Drawn.refl _⟩
  · rcases h3' with rfl | ⟨b', off', rfl, hlt', hc'⟩
    · go_enter Try.func14, Try.ntmps14
      go_wp2
      refine wp_loop_rounds 1 ?_
      rw [rounds_succ]
      go_wp2
      go_ret
      exact ⟨rfl, Drawn.refl _⟩
    · have HC := Lib.hid hc
      have HC' := Lib.hid hc'
      clear hc hc'
      go_enter Try.func14, Try.ntmps14
      go_wp2
      go_loopw [5] (fun i wr => ∃ k : Nat, k ≤ l.length ∧ i = .int .i64 k ∧ Hid (Drawn w wr)) (fun i _ => l.length - (intOf i).toNat)
      case atStart => exact ⟨0, Nat.zero_le _, rfl, Lib.hid (Drawn.refl _)⟩
      case round =>
        obtain ⟨k, hk, rfl, HD⟩ := hrel
        by_cases hlk : k < l.length
        · have hx : wr.cell? ⟨b, off + k, none⟩ = some (.int .u32 (l.getD k 0)) := (HD.out.below.cell (p := ⟨b, off + k, none⟩) hlt).trans (HC.out k hlk)
          have hx' : wr.cell? ⟨b', off' + k, none⟩ = some (.int .u32 (l.getD k 0)) := (HD.out.below.cell (p := ⟨b', off' + k, none⟩) hlt').trans (HC'.out k hlk)
          have HN := Lib.hid (fun n => HD.out.next n)
          generalize l.getD k 0 = x at *
          go_upto_region 6 with fail
          go_quiet (fail)
          have HD2 := Lib.hid (HN.out nq)
          go_wp2
          go_roundw
          case rel => exact ⟨k + 1, by omega, by go_num, HD2⟩
          case measure => simp [intOf]; omega
        · have : k = l.length := by omega
          subst this
          go_wp2
          go_ret
          exact ⟨rfl, HD.out⟩
end Go.Proofs.Ytdlebcjkokabjaa
