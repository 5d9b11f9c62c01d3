/- Layer 13: the program's Of. -/
import Derived.Test.YtgbeedjcliajfaaKeye
namespace Go.Proofs.Ytgbeedjcliajfaa
set_option maxRecDepth 100000
open Go.RowKit
set_option linter.unusedVariables false
set_option maxHeartbeats 8000000 in
theorem of_any (w : World) (D I M V u : Value) (S : Sc) (m : Int) (l : List Int) (h : Sch4 w D I M V S) (hw : SWf S) (hu : Ints .i64 w u l) (m0 : 0 ≤ m) (m1 : m ≤ 4294967295) :
    Calls Try.prog 9 #[SchV D I M V, .int .u32 m, u] w fun e w' => e = .returned (.tuple #[.int .u64 (ofL S m l), .int .i64 (ofE S m l)]) ∧ Below w.heap.size w w' := by
  have HB0 := Lib.hid (below_one w (SchO D I M V))
  have HX := Lib.hid (box_new w D I M V)
  have HN := Lib.hid (fun w1 (hb : Below w.heap.size w w1) => number_any w1 D I M V S m (h.below hb) hw m0 m1)
  obtain ⟨pu, cu, rfl, hcu, -⟩ := id hu
  have HU := Lib.hid hu
  by_cases hn : numE S m = 0
  · rw [hn, if_pos rfl] at HN
    have hy := sc_few (num_yes hn).1
    have HH := Lib.hid (fun w k hk => has_any w m k hk m0 m1)
    have hd := h.d
    have HD := Lib.hid h.d
    obtain ⟨⟨p, c, rfl⟩, ⟨p2, c2, rfl⟩, ⟨p3, c3, rfl⟩, p4, c4, rfl⟩ := h.slices
    by_cases hl : l.length = S.ds.length
    · have HJ := Lib.hid (fun w1 (hb : Below w.heap.size w w1) (hc : InG (dz S.ds) (cz l) (bitG m) S.ds.length) => join_any w1 _ _ S.ds m l (HD.out.below hb) (hu.below hb) (by omega) hl hy.2 hc m0 m1)
      have HE2 := Lib.hid (fun (q : rngB S.ds m l = false) => show ofE S m l = 2 ∧ ofL S m l = 0 by
        have hE : ofE S m l = 2 := by unfold ofE; rw [if_pos hn, if_pos hl, q]; rfl
        exact ⟨hE, by unfold ofL; rw [hE]; rfl⟩)
      have HE0 := Lib.hid (fun (q : rngB S.ds m l = true) => show ofE S m l = 0 ∧ ofL S m l = keyG (dz S.ds) (cz l) (bitG m) S.ds.length by
        have hE : ofE S m l = 0 := by unfold ofE; rw [if_pos hn, if_pos hl, if_pos q]
        exact ⟨hE, by unfold ofL; rw [if_pos hE]⟩)
      obtain ⟨a', cap', e', h1, h2, h3⟩ := hd
      obtain ⟨rfl, rfl⟩ : p = a' ∧ c = cap' := by injection e' with e1 e2 e3; exact ⟨e1, e3⟩
      have HC := Lib.hid h3
      have HG := Lib.hid (@rng_good S.ds m l)
      have HI := Lib.hid (@rng_in S.ds m l)
      have HBd := Lib.hid (fun k => @rng_bad S.ds m l k)
      have HAt := Lib.hid (fun k => show rngAt S.ds m l k = (!bitG m k || (decide (0 ≤ cz l k) && decide (cz l k < dz S.ds k))) from rfl)
      rw [hl] at HJ
      rw [hl] at HU
      rw [hl] at hcu
      rw [hl]
      generalize keysL S.ds m S.ds.length = ky at *
      generalize keyG (dz S.ds) (cz l) (bitG m) S.ds.length = ans at *
      generalize ofE S m l = oe at *
      generalize ofL S m l = ol at *
      generalize rngB S.ds m l = rb at *
      have hn6 := hy.1
      clear hn h hw e' h3 hy hu
      go_enter Try.func9, Try.ntmps9
      go_wp2_with fail
      refine (HN.out _ HB0.out).mono ?_; rintro e w1 ⟨rfl, hb⟩
      have HB1 := Lib.hid (below_then HB0.out hb)
      have HX1 := Lib.hid (HX.out.below hb)
      obtain ⟨x0, x1, x2, x3⟩ := (HX.out.below hb).reads
      clear hb
      go_wp2_with fail
      go_loopw [30] (fun i wr => ∃ k : Nat, k ≤ S.ds.length ∧ i = .int .i64 k ∧ Hid (Below w.heap.size w wr ∧ Box wr w.heap.size (.slice p S.ds.length c) (.slice p2 S.is.length c2) (.slice p3 S.ns.length c3) (.slice p4 S.vs.length c4)) ∧ Hid (∀ j, j < k → rngAt S.ds m l j = true)) (fun i _ => S.ds.length - (intOf i).toNat)
      case atStart => exact ⟨0, Nat.zero_le _, rfl, Lib.hid ⟨HB1.out, HX1.out⟩, Lib.hid (fun j hj => by omega)⟩
      case round =>
        obtain ⟨k, hk, rfl, HB, HJk⟩ := hrel
        clear x0 x1 x2 x3
        by_cases hlk : k < S.ds.length
        · rcases HC.out with h3 | ⟨b, off, rfl, hlt, hcell⟩
          · rw [h3] at hlk; simp at hlk
          obtain ⟨c0, c1⟩ := hcell k hlk
          have c0 : wr.cell? ⟨b, off + k * 2, none⟩ = _ := (HB.out.1.cell (p := ⟨b, off + k * 2, none⟩) hlt).trans c0
          have c1 : wr.cell? ⟨b, off + k * 2 + 1, none⟩ = _ := (HB.out.1.cell (p := ⟨b, off + k * 2 + 1, none⟩) hlt).trans c1
          obtain ⟨b2, o2, hp2, hb2, hc2⟩ := HU.out.cell (i := k) (by omega)
          subst hp2
          have hc2 := cell_later HB.out.1 hc2
          have hc3 : wr.cell? ⟨b2, o2 + k, none⟩ = some (.int .i64 (cz l k)) := hc2
          have HHk := Lib.hid (fun w => (HH.out w k (by omega)).mono fun _ _ h => And.intro h.1 h.2.symm)
          have HAk := HAt.out k
          have HBk := Lib.hid (fun q => HBd.out k hlk q)
          have HNx := Lib.hid (fun q : rngAt S.ds m l k = true => fun j (hj : j < k + 1) => if e : j = k then (e ▸ q : rngAt S.ds m l j = true) else HJk.out j (by omega))
          have hB1 := below_one wr (.cells #[.string (dn S.ds k), .int .i64 (dz S.ds k)] 40)
          have hc4 := cell_later hB1 hc3
          have HB1k := Lib.hid (And.intro (HB.out.1.alloc HB.out.1.size (.cells #[.string (dn S.ds k), .int .i64 (dz S.ds k)] 40)) (HB.out.2.below hB1))
          have hle : Hid (k + 1 ≤ S.ds.length) := Lib.hid (by omega)
          have hwr := HB.out.1.size
          clear hc2 hB1 hcell
          generalize dn S.ds k = x at *
          generalize dz S.ds k = z at *
          generalize cz l k = y at *
          generalize rngAt S.ds m l k = t at *
          generalize bitG m k = bt at *
          cases bt with
          | false =>
            have HNy := Lib.hid (HNx.out (by rw [HAk]; rfl))
            clear HNx HBk HAk hc3 hc4
            go_upto_region 9 with fail
            go_quiet ((go_at_call 23; exact Calls.quiet_of_same (HHk.out _)))
            have HB2 := Lib.hid (And.intro (below_drewN HB1k.out.1 nq) (show Box ((wr.alloc (.cells #[.string x, .int .i64 z] 40)).drewN nq) w.heap.size _ _ _ _ from HB1k.out.2))
            go_wp2
            go_roundw
            case rel => exact ⟨k + 1, hle.out, by go_num, HB2, HNy⟩
            case measure => simp [intOf]; omega
          | true =>
            by_cases hy0 : y < 0
            · have hR := HE2.out (HBk.out (by rw [HAk, decide_eq_false (p := 0 ≤ y) (by omega)]; rfl))
              obtain ⟨rfl, rfl⟩ := hR
              clear HNx HBk HAk
              go_upto_region 9 with fail
              go_quiet ((go_at_call 23; exact Calls.quiet_of_same (HHk.out _)))
              have HB2 := Lib.hid (below_drewN HB1k.out.1 nq)
              go_wp2
              exact bodyPost_ret (v := .tuple #[.int .u64 0, .int .i64 2]) (by simp [results, Try.results9, go_sem]) rfl ⟨rfl, HB2.out⟩
            · by_cases hyz : z ≤ y
              · have hR := HE2.out (HBk.out (by rw [HAk, decide_eq_false (p := y < z) (by omega)]; simp))
                obtain ⟨rfl, rfl⟩ := hR
                clear HNx HBk HAk
                go_upto_region 9 with fail
                go_quiet ((go_at_call 23; exact Calls.quiet_of_same (HHk.out _)))
                have HB2 := Lib.hid (below_drewN HB1k.out.1 nq)
                go_wp2
                exact bodyPost_ret (v := .tuple #[.int .u64 0, .int .i64 2]) (by simp [results, Try.results9, go_sem]) rfl ⟨rfl, HB2.out⟩
              · have HNy := Lib.hid (HNx.out (by rw [HAk]; simp; omega))
                clear HNx HBk HAk
                go_upto_region 9 with fail
                go_quiet ((go_at_call 23; exact Calls.quiet_of_same (HHk.out _)))
                have HB2 := Lib.hid (And.intro (below_drewN HB1k.out.1 nq) (show Box ((wr.alloc (.cells #[.string x, .int .i64 z] 40)).drewN nq) w.heap.size _ _ _ _ from HB1k.out.2))
                go_wp2
                go_roundw
                case rel => exact ⟨k + 1, hle.out, by go_num, HB2, HNy⟩
                case measure => simp [intOf]; omega
        · have : k = S.ds.length := by omega
          subst this
          have hR := HE0.out (HG.out HJk.out)
          obtain ⟨rfl, rfl⟩ := hR
          have HQ := Lib.hid (fun w1 hb => HJ.out w1 hb (HI.out HJk.out))
          obtain ⟨y0, y1, y2, y3⟩ := HB.out.2.reads
          go_wp2_with fail
          refine (HQ.out _ HB.out.1).mono ?_; rintro e w2 ⟨rfl, hb⟩
          have HB2 := Lib.hid (below_then HB.out.1 hb)
          clear hb
          go_wp2_with fail
          exact bodyPost_ret (v := .tuple #[.int .u64 ol, .int .i64 0]) (by simp [results, Try.results9, go_sem]) rfl ⟨rfl, HB2.out⟩
    · have hE : ofE S m l = 3 := by unfold ofE; rw [if_pos hn, if_neg hl]
      have hL : ofL S m l = 0 := by unfold ofL; rw [hE]; rfl
      rw [hE, hL]
      have hne : ((l.length : Int) != (S.ds.length : Int)) = true := by simp; omega
      generalize keysL S.ds m S.ds.length = ky at *
      clear hn hE h hw hy HH hL hl hd HD
      go_enter Try.func9, Try.ntmps9
      go_wp2_with fail
      refine (HN.out _ HB0.out).mono ?_; rintro e w1 ⟨rfl, hb⟩
      have HB1 := Lib.hid (below_then HB0.out hb)
      obtain ⟨x0, x1, x2, x3⟩ := (HX.out.below hb).reads
      clear hb
      go_wp2_with fail
      exact bodyPost_ret (v := .tuple #[.int .u64 0, .int .i64 3]) (by simp [results, Try.results9, go_sem]) rfl ⟨rfl, HB1.out⟩
  · obtain ⟨⟨p, c, rfl⟩, ⟨p2, c2, rfl⟩, ⟨p3, c3, rfl⟩, p4, c4, rfl⟩ := h.slices
    have hE : ofE S m l = numE S m := by unfold ofE; rw [if_neg hn]
    have hL : ofL S m l = 0 := by unfold ofL; rw [hE, if_neg hn]
    rw [hE, hL]
    rw [if_neg hn] at HN
    have hz : ((numE S m : Int) != 0) = true := by simp; omega
    generalize (numE S m : Int) = ne at *
    clear hn hE h hw hL
    go_enter Try.func9, Try.ntmps9
    go_wp2_with fail
    refine (HN.out _ HB0.out).mono ?_; rintro e w1 ⟨rfl, hb⟩
    have HB1 := Lib.hid (below_then HB0.out hb)
    clear hb
    go_wp2_with fail
    exact bodyPost_ret (v := .tuple #[.int .u64 0, .int .i64 ne]) (by simp [results, Try.results9, go_sem]) rfl ⟨rfl, HB1.out⟩
end Go.Proofs.Ytgbeedjcliajfaa
