/- Contracts that the law leans on, pruned and merged: Keyf Keyj Aggi Agoa Faci. -/
import Derived.BigQuiet
import Derived.Deep.QuietTactic
import Derived.Deep.RegionHeld3
import Derived.Test.YtigikgphipebiaaGreatDoorRi25
import Derived.Test.YtigikgphipebiaaGreatDoorRi32
/- Layer 13: the program's Of. -/
namespace Go.Proofs.YtigikgphipebiaaGreatDoor
set_option maxRecDepth 100000
open Go.RowKit
set_option linter.unusedVariables false
set_option maxHeartbeats 8000000 in
theorem kof_any (w : World) (D I M V u : Value) (S : Sc) (m : Int) (l : List Int) (h : Sch4 w D I M V S) (hw : SWf S) (hu : Ints .i64 w u l) (m0 : 0 ≤ m) (m1 : m ≤ 4294967295) :
    Calls Tryz.prog 34 #[SchV D I M V, .int .u32 m, u] w fun e w' => e = .returned (.tuple #[.int .u64 (ofL S m l), .int .i64 (ofE S m l)]) ∧ Below w.heap.size w w' := by
  have HB0 := Lib.hid (below_one w (SchO D I M V))
  have HX := Lib.hid (box_new w D I M V)
  have HN := Lib.hid (fun w1 (hb : Below w.heap.size w w1) => knumber_any w1 D I M V S m (h.below hb) hw m0 m1)
  obtain ⟨pu, cu, rfl, hcu, -⟩ := id hu
  have HU := Lib.hid hu
  by_cases hn : numE S m = 0
  · rw [hn, if_pos rfl] at HN
    have hy := sc_few (num_yes hn).1
    have HH := Lib.hid (fun w k hk => khas_any w m k hk m0 m1)
    have hd := h.d
    have HD := Lib.hid h.d
    obtain ⟨⟨p, c, rfl⟩, ⟨p2, c2, rfl⟩, ⟨p3, c3, rfl⟩, p4, c4, rfl⟩ := h.slices
    by_cases hl : l.length = S.ds.length
    · have HJ := Lib.hid (fun w1 (hb : Below w.heap.size w w1) (hc : InG (dz S.ds) (cz l) (bitG m) S.ds.length) => kjoin_any w1 _ _ S.ds m l (HD.out.below hb) (hu.below hb) (by omega) hl hy.2 hc m0 m1)
      have HE2 := Lib.hid (fun (q : rngB S.ds m l = false) => show ofE S m l = 2 ∧ ofL S m l = 0 by
        have hE : ofE S m l = 2 := by unfold ofE; rw [if_pos hn, if_pos hl, q]; rfl
        exact ⟨hE, by unfold ofL; rw [hE]; rfl⟩)
      have HE0 := Lib.hid (fun (q : rngB S.ds m l = true) => show ofE S m l = 0 ∧ ofL S m l = keyG (dz S.ds) (cz l) (bitG m) S.ds.length by
        have hE : ofE S m l = 0 := by unfold ofE; rw [if_pos hn, if_pos hl, if_pos q]
        exact ⟨hE, by unfold ofL; rw [if_pos hE]⟩)
      obtain ⟨a', cap', e', h1, h2, h3⟩ := hd
      obtain ⟨rfl, rfl⟩ : p = a' ∧ c = cap' := by injection e' with e1 e2 e3; exact ⟨e1, e3⟩
      have HC := Lib.hid h3
      have HG := Lib.hid (@rng_good S.ds m l)
      have HI := Lib.hid (@rng_in S.ds m l)
      have HBd := Lib.hid (fun k => @rng_bad S.ds m l k)
      have HAt := Lib.hid (fun k => show rngAt S.ds m l k = (!bitG m k || (decide (0 ≤ cz l k) && decide (cz l k < dz S.ds k))) from rfl)
      rw [hl] at HJ
      rw [hl] at HU
      rw [hl] at hcu
      rw [hl]
      generalize keysL S.ds m S.ds.length = ky at *
      generalize keyG (dz S.ds) (cz l) (bitG m) S.ds.length = ans at *
      generalize ofE S m l = oe at *
      generalize ofL S m l = ol at *
      generalize rngB S.ds m l = rb at *
      have hn6 := hy.1
      clear hn h hw e' h3 hy hu
      go_enter Tryz.func34, Tryz.ntmps34
      go_wp2_with fail
      refine (HN.out _ HB0.out).mono ?_; rintro e w1 ⟨rfl, hb⟩
      have HB1 := Lib.hid (below_then HB0.out hb)
      have HX1 := Lib.hid (HX.out.below hb)
      obtain ⟨x0, x1, x2, x3⟩ := (HX.out.below hb).reads
      clear hb
      go_wp2_with fail
      go_loopw [30] (fun i wr => ∃ k : Nat, k ≤ S.ds.length ∧ i = .int .i64 k ∧ Hid (Below w.heap.size w wr ∧ Box wr w.heap.size (.slice p S.ds.length c) (.slice p2 S.is.length c2) (.slice p3 S.ns.length c3) (.slice p4 S.vs.length c4)) ∧ Hid (∀ j, j < k → rngAt S.ds m l j = true)) (fun i _ => S.ds.length - (intOf i).toNat)
      case atStart => exact ⟨0, Nat.zero_le _, rfl, Lib.hid ⟨HB1.out, HX1.out⟩, Lib.hid (fun j hj => by omega)⟩
      case round =>
        obtain ⟨k, hk, rfl, HB, HJk⟩ := hrel
        clear x0 x1 x2 x3
        by_cases hlk : k < S.ds.length
        · rcases HC.out with h3 | ⟨b, off, rfl, hlt, hcell⟩
          · rw [h3] at hlk; simp at hlk
          obtain ⟨c0, c1⟩ := hcell k hlk
          have c0 : wr.cell? ⟨b, off + k * 2, none⟩ = _ := (HB.out.1.cell (p := ⟨b, off + k * 2, none⟩) hlt).trans c0
          have c1 : wr.cell? ⟨b, off + k * 2 + 1, none⟩ = _ := (HB.out.1.cell (p := ⟨b, off + k * 2 + 1, none⟩) hlt).trans c1
          obtain ⟨b2, o2, hp2, hb2, hc2⟩ := HU.out.cell (i := k) (by omega)
          subst hp2
          have hc2 := cell_later HB.out.1 hc2
          have hc3 : wr.cell? ⟨b2, o2 + k, none⟩ = some (.int .i64 (cz l k)) := hc2
          have HHk := Lib.hid (fun w => (HH.out w k (by omega)).mono fun _ _ h => And.intro h.1 h.2.symm)
          have HAk := HAt.out k
          have HBk := Lib.hid (fun q => HBd.out k hlk q)
          have HNx := Lib.hid (fun q : rngAt S.ds m l k = true => fun j (hj : j < k + 1) => if e : j = k then (e ▸ q : rngAt S.ds m l j = true) else HJk.out j (by omega))
          have hB1 := below_one wr (.cells #[.string (dn S.ds k), .int .i64 (dz S.ds k)] 73)
          have hc4 := cell_later hB1 hc3
          have HB1k := Lib.hid (And.intro (HB.out.1.alloc HB.out.1.size (.cells #[.string (dn S.ds k), .int .i64 (dz S.ds k)] 73)) (HB.out.2.below hB1))
          have hle : Hid (k + 1 ≤ S.ds.length) := Lib.hid (by omega)
          have hwr := HB.out.1.size
          clear hc2 hB1 hcell
          generalize dn S.ds k = x at *
          generalize dz S.ds k = z at *
          generalize cz l k = y at *
          generalize rngAt S.ds m l k = t at *
          generalize bitG m k = bt at *
          cases bt with
          | false =>
            have HNy := Lib.hid (HNx.out (by rw [HAk]; rfl))
            clear HNx HBk HAk hc3 hc4
            go_upto_region 9 with fail
            go_quiet ((go_at_call 94; exact Calls.quiet_of_same (HHk.out _)))
            have HB2 := Lib.hid (And.intro (below_drewN HB1k.out.1 nq) (show Box ((wr.alloc (.cells #[.string x, .int .i64 z] 73)).drewN nq) w.heap.size _ _ _ _ from HB1k.out.2))
            go_wp2
            go_roundw
            case rel => exact ⟨k + 1, hle.out, by go_num, HB2, HNy⟩
            case measure => simp [intOf]; omega
          | true =>
            by_cases hy0 : y < 0
            · have hR := HE2.out (HBk.out (by rw [HAk, decide_eq_false (p := 0 ≤ y) (by omega)]; rfl))
              obtain ⟨rfl, rfl⟩ := hR
              clear HNx HBk HAk
              go_upto_region 9 with fail
              go_quiet ((go_at_call 94; exact Calls.quiet_of_same (HHk.out _)))
              have HB2 := Lib.hid (below_drewN HB1k.out.1 nq)
              go_wp2
              exact bodyPost_ret (v := .tuple #[.int .u64 0, .int .i64 2]) (by simp [results, Tryz.results34, go_sem]) rfl ⟨rfl, HB2.out⟩
            · by_cases hyz : z ≤ y
              · have hR := HE2.out (HBk.out (by rw [HAk, decide_eq_false (p := y < z) (by omega)]; simp))
                obtain ⟨rfl, rfl⟩ := hR
                clear HNx HBk HAk
                go_upto_region 9 with fail
                go_quiet ((go_at_call 94; exact Calls.quiet_of_same (HHk.out _)))
                have HB2 := Lib.hid (below_drewN HB1k.out.1 nq)
                go_wp2
                exact bodyPost_ret (v := .tuple #[.int .u64 0, .int .i64 2]) (by simp [results, Tryz.results34, go_sem]) rfl ⟨rfl, HB2.out⟩
              · have HNy := Lib.hid (HNx.out (by rw [HAk]; simp; omega))
                clear HNx HBk HAk
                go_upto_region 9 with fail
                go_quiet ((go_at_call 94; exact Calls.quiet_of_same (HHk.out _)))
                have HB2 := Lib.hid (And.intro (below_drewN HB1k.out.1 nq) (show Box ((wr.alloc (.cells #[.string x, .int .i64 z] 73)).drewN nq) w.heap.size _ _ _ _ from HB1k.out.2))
                go_wp2
                go_roundw
                case rel => exact ⟨k + 1, hle.out, by go_num, HB2, HNy⟩
                case measure => simp [intOf]; omega
        · have : k = S.ds.length := by omega
          subst this
          have hR := HE0.out (HG.out HJk.out)
          obtain ⟨rfl, rfl⟩ := hR
          have HQ := Lib.hid (fun w1 hb => HJ.out w1 hb (HI.out HJk.out))
          obtain ⟨y0, y1, y2, y3⟩ := HB.out.2.reads
          go_wp2_with fail
          refine (HQ.out _ HB.out.1).mono ?_; rintro e w2 ⟨rfl, hb⟩
          have HB2 := Lib.hid (below_then HB.out.1 hb)
          clear hb
          go_wp2_with fail
          exact bodyPost_ret (v := .tuple #[.int .u64 ol, .int .i64 0]) (by simp [results, Tryz.results34, go_sem]) rfl ⟨rfl, HB2.out⟩
    · have hE : ofE S m l = 3 := by unfold ofE; rw [if_pos hn, if_neg hl]
      have hL : ofL S m l = 0 := by unfold ofL; rw [hE]; rfl
      rw [hE, hL]
      have hne : ((l.length : Int) != (S.ds.length : Int)) = true := by simp; omega
      generalize keysL S.ds m S.ds.length = ky at *
      clear hn hE h hw hy HH hL hl hd HD
      go_enter Tryz.func34, Tryz.ntmps34
      go_wp2_with fail
      refine (HN.out _ HB0.out).mono ?_; rintro e w1 ⟨rfl, hb⟩
      have HB1 := Lib.hid (below_then HB0.out hb)
      obtain ⟨x0, x1, x2, x3⟩ := (HX.out.below hb).reads
      clear hb
      go_wp2_with fail
      exact bodyPost_ret (v := .tuple #[.int .u64 0, .int .i64 3]) (by simp [results, Tryz.results34, go_sem]) rfl ⟨rfl, HB1.out⟩
  · obtain ⟨⟨p, c, rfl⟩, ⟨p2, c2, rfl⟩, ⟨p3, c3, rfl⟩, p4, c4, rfl⟩ := h.slices
    have hE : ofE S m l = numE S m := by unfold ofE; rw [if_neg hn]
    have hL : ofL S m l = 0 := by unfold ofL; rw [hE, if_neg hn]
    rw [hE, hL]
    rw [if_neg hn] at HN
    have hz : ((numE S m : Int) != 0) = true := by simp; omega
    generalize (numE S m : Int) = ne at *
    clear hn hE h hw hL
    go_enter Tryz.func34, Tryz.ntmps34
    go_wp2_with fail
    refine (HN.out _ HB0.out).mono ?_; rintro e w1 ⟨rfl, hb⟩
    have HB1 := Lib.hid (below_then HB0.out hb)
    clear hb
    go_wp2_with fail
    exact bodyPost_ret (v := .tuple #[.int .u64 0, .int .i64 ne]) (by simp [results, Tryz.results34, go_sem]) rfl ⟨rfl, HB1.out⟩
end Go.Proofs.YtigikgphipebiaaGreatDoor
/- Layer 13: what comes in beside a schema: codes, two rows of codes, three sets, a way. -/
namespace Go.Proofs.YtigikgphipebiaaGreatDoor
set_option maxRecDepth 100000
open Go.RowKit Go.ChangeShapes Go.WideShapes Go.Deep
set_option linter.unusedVariables false
theorem arr_cells {w : World} {r : Reach} {b0 : Nat} {t e : TypeId} {n m : Nat} {v : Value} (hu : Tryz.prog.underlying t = some (.array n e)) (hm : Tryz.prog.cellsOf t = m) (hv : Value.okWide Tryz.prog w r b0 t v) : ∃ cs, v = .agg cs ∧ cs.size = m := by
  unfold Value.okWide at hv
  rw [hu] at hv
  obtain ⟨cs, rfl, hsz, -⟩ := hv
  exact ⟨cs, rfl, hsz.trans hm⟩
end Go.Proofs.YtigikgphipebiaaGreatDoor
/- Layer 14: opening a cell, two cells, a fact. -/
namespace Go.Proofs.YtigikgphipebiaaGreatDoor
set_option maxRecDepth 100000
open Go.ChangeShapes Go.WideShapes Go.ChangeAt Go.RowKit Go.Deep
set_option linter.unusedVariables false
section
variable {H : Type} {enc : TypeId × Value → H} {w : World} {base : Nat} {spare : Nat → Bool} {held : Bool}
theorem ints_gen {fuel : Nat} {k : IntKind} {v : Value} {x : DataW H × List MemPlace} {T E : TypeId} (hT : Tryz.prog.underlying T = some (.slice E)) (hE : Tryz.prog.underlying E = some (.int k)) (h1 : Tryz.prog.cellsOf E = 1)
    (h : DataW.trod enc Tryz.prog w base spare held fuel T [v] = some x) :
    ∃ vs, Ints k w v vs ∧ (∀ d ∈ vs, (Lit.int k d).wf = true) ∧ vs.length ≤ 9223372036854775807 := by
  rcases open_ints hT hE h1 h with ⟨hcs, _⟩ | ⟨x, l, c, zs, hcs, _, hl, hm, hz, _, hcell, hwz⟩
  · obtain rfl : v = .slice none 0 0 := by simpa using hcs
    exact ⟨[], ⟨none, 0, rfl, by simp, .inl rfl⟩, (fun _ h => by cases h), by simp⟩
  · obtain rfl : v = .slice (some x) l c := by simpa using hcs
    have hlz : l ≤ zs.length := by rw [hz]; split <;> omega
    have ht : (zs.take l).length = l := by rw [List.length_take]; omega
    refine ⟨zs.take l, ⟨some x, c, by rw [ht], by omega, ?_⟩, fun n hn => hwz n (List.mem_of_mem_take hn), by rw [ht]; unfold maxLen at hm; omega⟩
    by_cases h0 : l = 0
    · subst h0; exact .inl (by simp)
    · refine .inr ?_
      obtain ⟨b, off, spot⟩ := x
      have hc := hcell 0 (by omega)
      have hspot : spot = none := by simpa [Addr.add] using World.cell?_spot hc
      subst hspot
      refine ⟨b, off, rfl, World.block_lt_of_cell? w _ hc, fun i hi => ?_⟩
      rw [ht] at hi
      have e : (zs.take l).getD i 0 = zs.getD i 0 := by simp [List.getD, hi]
      rw [e]
      have hh := hcell i (by omega)
      by_cases h0 : i = 0
      · subst h0; simpa [Addr.add] using hh
      · simpa [Addr.add, h0] using hh
theorem rows_gen {α : Type} {fuel n : Nat} {v : Value} {x : DataW H × List MemPlace} {T E : TypeId} (R : α → List Value → Prop) (a0 : α) (hn : 0 < n) (hT : Tryz.prog.underlying T = some (.slice E)) (hc : Tryz.prog.cellsOf E = n)
    (hr : ∀ {fuel : Nat} {cs : List Value} {x : DataW H × List MemPlace}, DataW.trod enc Tryz.prog w base spare held fuel E cs = some x → ∃ a, R a cs ∧ cs.length = n)
    (h : DataW.trod enc Tryz.prog w base spare held fuel T [v] = some x) :
    ∃ (l : List α) (a : Option Addr) (cap : Nat), v = .slice a l.length cap ∧ l.length ≤ cap ∧ l.length ≤ 9223372036854775807 ∧ (∀ y ∈ l, ∃ cs, R y cs) ∧ (l = [] ∨ ∃ b off, a = some ⟨b, off, none⟩ ∧ b < w.heap.size ∧ ∀ i (hi : i < l.length), ∃ cs, R l[i] cs ∧ ∀ j, j < n → w.cell? ⟨b, off + i * n + j, none⟩ = cs[j]?) := by
  rcases open_slice hT h with ⟨hv, -⟩ | ⟨a, len, cap, m, nn, Dx, Pl, hv, -, hl, hcm, hmm, -, hi⟩
  · obtain rfl : v = .slice none 0 0 := by simpa using hv
    exact ⟨[], none, 0, rfl, by simp, by simp, fun _ h => by (cases h), .inl rfl⟩
  · obtain rfl : v = .slice (some a) len cap := by simpa using hv
    have hlm : len ≤ m := by rw [hmm]; split <;> omega
    have hq : ∀ k, ∃ f : α, k < len → ∃ cs, (∀ j, j < n → w.cell? ((a.add (k * n)).add j) = cs[j]?) ∧ R f cs ∧ cs.length = n := by
      intro k
      by_cases hk : k < len
      · obtain ⟨cs', hc', ht⟩ := hi k (by omega)
        obtain ⟨f, hf, hlen⟩ := hr ht
        rw [hc] at hc'
        obtain ⟨-, -, hat⟩ := World.cells?_some hc'
        exact ⟨f, fun _ => ⟨cs', hat, hf, hlen⟩⟩
      · exact ⟨a0, fun h => absurd h hk⟩
    obtain ⟨q, hq⟩ := Classical.axiomOfChoice hq
    have hle : ((List.range len).map q).length = len := by simp
    have hget : ∀ k (h : k < ((List.range len).map q).length), ((List.range len).map q)[k] = q k := fun k hk => by simp
    refine ⟨(List.range len).map q, some a, cap, by rw [hle], by rw [hle]; exact hl, by rw [hle]; unfold maxLen at hcm; omega, fun y hy => ?_, ?_⟩
    · obtain ⟨k, hk, rfl⟩ := List.getElem_of_mem hy
      obtain ⟨cs, -, h3, -⟩ := hq k (by rw [hle] at hk; exact hk)
      rw [hget k hk]
      exact ⟨cs, h3⟩
    · by_cases h0 : len = 0
      · exact .inl (by subst h0; rfl)
      · refine .inr ?_
        obtain ⟨b, off, spot⟩ := a
        obtain ⟨cs, hcc, -, hlen⟩ := hq 0 (by omega)
        have hc0 := hcc 0 hn
        have hsome : ∃ u, cs[0]? = some u := ⟨cs[0], by rw [List.getElem?_eq_getElem]⟩
        obtain ⟨u, hu⟩ := hsome
        rw [hu] at hc0
        have hspot : spot = none := by simpa [Addr.add] using World.cell?_spot hc0
        subst hspot
        refine ⟨b, off, rfl, by simpa [Addr.add] using World.block_lt_of_cell? w _ hc0, fun k hk => ?_⟩
        obtain ⟨cs, hh, h3, -⟩ := hq k (by rw [hle] at hk; exact hk)
        have ha : (⟨b, off, none⟩ : Addr).add (k * n) = ⟨b, off + k * n, none⟩ := by
          by_cases k0 : k = 0
          · subst k0; simp [Addr.add]
          · have k6 : ¬ k * n = 0 := by simp [Nat.mul_eq_zero]; omega
            simp only [Addr.add, if_neg k6]
        rw [ha] at hh
        refine ⟨cs, by rw [hget k hk]; exact h3, fun j hj => ?_⟩
        have := hh j hj
        have hb : (⟨b, off + k * n, none⟩ : Addr).add j = ⟨b, off + k * n + j, none⟩ := by
          by_cases k0 : j = 0
          · subst k0; simp [Addr.add]
          · simp only [Addr.add, if_neg k0]
        rw [hb] at this
        exact this
def RowWh (w : World) (z : Wh) (cs : List Value) : Prop := ∃ q, cs = [.int .i64 z.sum, .int .i64 z.abs, q, .int .i64 z.mn, .int .i64 z.mx] ∧ Ints .u32 w q z.sq ∧ WhW z
def RowRe (w : World) (z : Re) (cs : List Value) : Prop := ∃ q, cs = [q, .float .f64 z.mn, .float .f64 z.mx] ∧ Ints .u8 w q z.sum ∧ ReW z
theorem wf_i64 {x : Int} (h : (Lit.int .i64 x).wf = true) : I64 x := by
  simp [Lit.wf, IntKind.min, IntKind.max, IntKind.signed, IntKind.bits] at h
  unfold I64; omega
theorem read_whole {fuel : Nat} {cs : List Value} {x : DataW H × List MemPlace} {T E : TypeId} {g0 g1 g2 g3 g4 : Field}
    (hT : Tryz.prog.underlying T = some (.struct #[g0, g1, g2, g3, g4])) (hc : Tryz.prog.cellsOf T = 5) (o0 : g0.offset = 0) (o1 : g1.offset = 1) (o2 : g2.offset = 2) (o3 : g3.offset = 3) (o4 : g4.offset = 4)
    (h0 : Tryz.prog.underlying g0.type = some (.int .i64)) (h1 : Tryz.prog.underlying g1.type = some (.int .i64)) (h2 : Tryz.prog.underlying g2.type = some (.slice E)) (h3 : Tryz.prog.underlying g3.type = some (.int .i64)) (h4 : Tryz.prog.underlying g4.type = some (.int .i64))
    (c0' : Tryz.prog.cellsOf g0.type = 1) (c1' : Tryz.prog.cellsOf g1.type = 1) (c2' : Tryz.prog.cellsOf g2.type = 1) (c3' : Tryz.prog.cellsOf g3.type = 1) (c4' : Tryz.prog.cellsOf g4.type = 1)
    (e2 : Tryz.prog.underlying E = some (.int .u32)) (d2 : Tryz.prog.cellsOf E = 1)
    (h : DataW.trod enc Tryz.prog w base spare held fuel T cs = some x) : ∃ z, RowWh w z cs ∧ cs.length = 5 := by
  obtain ⟨xs, n, -, hx, hlen, hxl, hf⟩ := DataW.trod_struct hT h
  rw [hc] at hlen
  match cs, hlen with
  | [c0, c1, c2, c3, c4], _ =>
    match xs, hxl with
    | [y0, y1, y2, y3, y4], _ =>
      have q0 := hf 0 g0 rfl
      have q1 := hf 1 g1 rfl
      have q2 := hf 2 g2 rfl
      have q3 := hf 3 g3 rfl
      have q4 := hf 4 g4 rfl
      rw [o0, c0'] at q0
      rw [o1, c1'] at q1
      rw [o2, c2'] at q2
      rw [o3, c3'] at q3
      rw [o4, c4'] at q4
      obtain ⟨a0, k0, -, w0⟩ := DataW.trod_int h0 q0
      obtain ⟨a1, k1, -, w1⟩ := DataW.trod_int h1 q1
      obtain ⟨a3, k3, -, w3⟩ := DataW.trod_int h3 q3
      obtain ⟨a4, k4, -, w4⟩ := DataW.trod_int h4 q4
      obtain ⟨l, hl, hw, hm⟩ := ints_gen (v := c2) h2 e2 d2 q2
      obtain rfl : c0 = .int .i64 a0 := by simpa using k0
      obtain rfl : c1 = .int .i64 a1 := by simpa using k1
      obtain rfl : c3 = .int .i64 a3 := by simpa using k3
      obtain rfl : c4 = .int .i64 a4 := by simpa using k4
      exact ⟨⟨a0, a1, l, a3, a4⟩, ⟨c2, rfl, hl, ⟨wf_i64 w0, wf_i64 w1, fun z hz => by have := hw z hz; simp [Lit.wf, IntKind.min, IntKind.max, IntKind.signed, IntKind.bits] at this; omega, hm, wf_i64 w3, wf_i64 w4⟩⟩, rfl⟩
theorem read_real {fuel : Nat} {cs : List Value} {x : DataW H × List MemPlace} {T E : TypeId} {g0 g1 g2 : Field}
    (hT : Tryz.prog.underlying T = some (.struct #[g0, g1, g2])) (hc : Tryz.prog.cellsOf T = 3) (o0 : g0.offset = 0) (o1 : g1.offset = 1) (o2 : g2.offset = 2)
    (h0 : Tryz.prog.underlying g0.type = some (.slice E)) (h1 : Tryz.prog.underlying g1.type = some (.float .f64)) (h2 : Tryz.prog.underlying g2.type = some (.float .f64))
    (c0' : Tryz.prog.cellsOf g0.type = 1) (c1' : Tryz.prog.cellsOf g1.type = 1) (c2' : Tryz.prog.cellsOf g2.type = 1)
    (e0 : Tryz.prog.underlying E = some (.int .u8)) (d0 : Tryz.prog.cellsOf E = 1)
    (h : DataW.trod enc Tryz.prog w base spare held fuel T cs = some x) : ∃ z, RowRe w z cs ∧ cs.length = 3 := by
  obtain ⟨xs, n, -, hx, hlen, hxl, hf⟩ := DataW.trod_struct hT h
  rw [hc] at hlen
  match cs, hlen with
  | [c0, c1, c2], _ =>
    match xs, hxl with
    | [y0, y1, y2], _ =>
      have q0 := hf 0 g0 rfl
      have q1 := hf 1 g1 rfl
      have q2 := hf 2 g2 rfl
      rw [o0, c0'] at q0
      rw [o1, c1'] at q1
      rw [o2, c2'] at q2
      obtain ⟨l, hl, hw, hm⟩ := ints_gen (v := c0) h0 e0 d0 q0
      obtain ⟨a1, k1, w1⟩ := trod_f64 h1 q1
      obtain ⟨a2, k2, w2⟩ := trod_f64 h2 q2
      obtain rfl : c1 = .float .f64 a1 := by simpa using k1
      obtain rfl : c2 = .float .f64 a2 := by simpa using k2
      exact ⟨⟨l, a1, a2⟩, ⟨c0, rfl, hl, ⟨fun z hz => by have := hw z hz; simp [Lit.wf, IntKind.min, IntKind.max, IntKind.signed, IntKind.bits] at this; omega, hm, by simpa [Lit.wf, W64] using w1, by simpa [Lit.wf, W64] using w2⟩⟩, rfl⟩
theorem wholes_of {fuel : Nat} {v : Value} {x : DataW H × List MemPlace} (h : DataW.trod enc Tryz.prog w base spare held fuel 38 [v] = some x) : ∃ l, Wholes w v l ∧ ∀ z ∈ l, WhW z := by
  obtain ⟨l, a, cap, rfl, h1, h2, h3, h4⟩ := rows_gen (n := 5) (RowWh w) wh0 (by decide) Tryz.underlying38 (by kernel_rfl)
    (fun h => read_whole Tryz.underlying75 (by kernel_rfl) rfl rfl rfl rfl rfl Tryz.underlying2 Tryz.underlying2 Tryz.underlying24 Tryz.underlying2 Tryz.underlying2 (by kernel_rfl) (by kernel_rfl) (by kernel_rfl) (by kernel_rfl) (by kernel_rfl) Tryz.underlying27 (by kernel_rfl) h) h
  refine ⟨l, ⟨a, cap, rfl, h1, h2, h4.imp id ?_⟩, fun z hz => ?_⟩
  · rintro ⟨b, off, rfl, hlt, hc⟩
    refine ⟨b, off, rfl, hlt, fun i hi => ?_⟩
    obtain ⟨cs, ⟨q, rfl, hq, -⟩, hcell⟩ := hc i hi
    rw [wg_get hi]
    exact ⟨q, by simpa using hcell 0 (by decide), by simpa using hcell 1 (by decide), by simpa using hcell 2 (by decide), by simpa using hcell 3 (by decide), by simpa using hcell 4 (by decide), hq⟩
  · obtain ⟨cs, q, -, -, hw⟩ := h3 z hz
    exact hw
theorem reals_of {fuel : Nat} {v : Value} {x : DataW H × List MemPlace} (h : DataW.trod enc Tryz.prog w base spare held fuel 39 [v] = some x) : ∃ l, Reals w v l ∧ ∀ z ∈ l, ReW z := by
  obtain ⟨l, a, cap, rfl, h1, h2, h3, h4⟩ := rows_gen (n := 3) (RowRe w) re0 (by decide) Tryz.underlying39 (by kernel_rfl)
    (fun h => read_real Tryz.underlying63 (by kernel_rfl) rfl rfl rfl Tryz.underlying61 Tryz.underlying59 Tryz.underlying59 (by kernel_rfl) (by kernel_rfl) (by kernel_rfl) Tryz.underlying5 (by kernel_rfl) h) h
  refine ⟨l, ⟨a, cap, rfl, h1, h2, h4.imp id ?_⟩, fun z hz => ?_⟩
  · rintro ⟨b, off, rfl, hlt, hc⟩
    refine ⟨b, off, rfl, hlt, fun i hi => ?_⟩
    obtain ⟨cs, ⟨q, rfl, hq, -⟩, hcell⟩ := hc i hi
    rw [rg_get hi]
    exact ⟨q, by simpa using hcell 0 (by decide), by simpa using hcell 1 (by decide), by simpa using hcell 2 (by decide), hq⟩
  · obtain ⟨cs, q, -, -, hw⟩ := h3 z hz
    exact hw
end
end Go.Proofs.YtigikgphipebiaaGreatDoor
/- Layer 14: opening two cells in an array. -/
namespace Go.Proofs.YtigikgphipebiaaGreatDoor
set_option maxRecDepth 100000
open Go.RowKit Go.ChangeShapes Go.WideShapes Go.Deep
set_option linter.unusedVariables false
def CeV2 (a : Ce) (I N : Value) (b : Ce) (J M : Value) : Value := .agg #[.int .u64 a.key, .int .i64 a.cnt, I, N, .int .u64 b.key, .int .i64 b.cnt, J, M]
theorem cell_at {H : Type} {enc : TypeId × Value → H} {w : World} {base : Nat} {spare : Nat → Bool} {held : Bool} {fuel : Nat} {cs : List Value} {x : DataW H × List MemPlace} {g0 g1 g2 g3 : Field}
    (hT : Tryz.prog.underlying 41 = some (.struct #[g0, g1, g2, g3])) (hc : Tryz.prog.cellsOf 41 = 4) (o0 : g0.offset = 0) (o1 : g1.offset = 1) (o2 : g2.offset = 2) (o3 : g3.offset = 3)
    (y0 : g0.type = 37) (y1 : g1.type = 2) (y2 : g2.type = 38) (y3 : g3.type = 39)
    (c0' : Tryz.prog.cellsOf 37 = 1) (c1' : Tryz.prog.cellsOf 2 = 1) (c2' : Tryz.prog.cellsOf 38 = 1) (c3' : Tryz.prog.cellsOf 39 = 1)
    (h : DataW.trod enc Tryz.prog w base spare held fuel 41 cs = some x) : ∃ I N c, cs = [.int .u64 c.key, .int .i64 c.cnt, I, N] ∧ CeM w I N c ∧ CeW c := by
  obtain ⟨xs, n, -, hx, hlen, hxl, hf⟩ := DataW.trod_struct hT h
  rw [hc] at hlen
  match cs, hlen with
  | [c0, c1, c2, c3], _ =>
    match xs, hxl with
    | [z0, z1, z2, z3], _ =>
      have q0 := hf 0 g0 rfl
      have q1 := hf 1 g1 rfl
      have q2 := hf 2 g2 rfl
      have q3 := hf 3 g3 rfl
      rw [o0, y0, c0'] at q0
      rw [o1, y1, c1'] at q1
      rw [o2, y2, c2'] at q2
      rw [o3, y3, c3'] at q3
      obtain ⟨k, k0, -, w0⟩ := DataW.trod_int Tryz.underlying37 q0
      obtain ⟨m, k1, -, w1⟩ := DataW.trod_int Tryz.underlying2 q1
      obtain ⟨ls, k2, w2⟩ := wholes_of (v := c2) q2
      obtain ⟨rs, k3, w3⟩ := reals_of (v := c3) q3
      obtain rfl : c0 = .int .u64 k := by simpa using k0
      obtain rfl : c1 = .int .i64 m := by simpa using k1
      exact ⟨c2, c3, ⟨k, m, ls, rs⟩, rfl, ⟨k2, k3⟩, ⟨by simp [Lit.wf, IntKind.min, IntKind.max, IntKind.signed, IntKind.bits] at w0; omega, wf_i64 w1, w2, w3⟩⟩
theorem cells2_of {H : Type} {enc : TypeId × Value → H} {w : World} {base : Nat} {spare : Nat → Bool} {held : Bool} {r : Reach} {b0 : Nat} {v : Value} {d : DataW H} {p : List MemPlace}
    (hv : Value.okWide Tryz.prog w r b0 57 v) (h : DataW.Trod enc Tryz.prog w base spare held 57 v d p) :
    ∃ I N c J M e, v = CeV2 c I N e J M ∧ CeM w I N c ∧ CeW c ∧ CeM w J M e ∧ CeW e := by
  obtain ⟨cs, rfl, hsz⟩ := arr_cells (m := 8) Tryz.underlying57 (by kernel_rfl) hv
  obtain ⟨fuel, h⟩ := h
  obtain ⟨xs, m, -, hx, hlen, hxl, hf⟩ := DataW.trod_array Tryz.underlying57 h
  obtain ⟨l⟩ := cs
  rw [show Tryz.prog.cellsOf 41 = 4 by kernel_rfl] at hf
  match l, hsz with
  | [c0, c1, c2, c3, c4, c5, c6, c7], _ =>
    match xs, hxl with
    | [y0, y1], _ =>
      have h0 := hf 0 (by decide)
      have h1 := hf 1 (by decide)
      obtain ⟨I, N, c, e, k1, k2⟩ := cell_at (cs := [c0, c1, c2, c3]) Tryz.underlying41 (by kernel_rfl) rfl rfl rfl rfl rfl rfl rfl rfl (by kernel_rfl) (by kernel_rfl) (by kernel_rfl) (by kernel_rfl) h0
      obtain ⟨J, M, f, e', k3, k4⟩ := cell_at (cs := [c4, c5, c6, c7]) Tryz.underlying41 (by kernel_rfl) rfl rfl rfl rfl rfl rfl rfl rfl (by kernel_rfl) (by kernel_rfl) (by kernel_rfl) (by kernel_rfl) h1
      cases e; cases e'
      exact ⟨_, _, c, _, _, f, rfl, k1, k2, k3, k4⟩
end Go.Proofs.YtigikgphipebiaaGreatDoor
/- Layer 12: the reference's All, Light. -/
namespace Go.Proofs.YtigikgphipebiaaGreatDoor
set_option maxRecDepth 100000
open Go.RowKit
set_option linter.unusedVariables false
theorem eq_good {xs ys : List Int} (hn : xs.length = ys.length) (h : ∀ j, j < xs.length → xs.getD j 0 = ys.getD j 0) : decide (xs = ys) = true := by
  rw [decide_eq_true_iff]
  apply List.ext_getElem hn
  intro i h1 h2
  have := h i h1
  simpa [List.getD, h1, h2] using this
theorem eq_bad {xs ys : List Int} {k : Nat} (h : xs.getD k 0 ≠ ys.getD k 0) : decide (xs = ys) = false := by
  rw [decide_eq_false_iff_not]
  intro e; rw [e] at h; exact h rfl
theorem eq_len {xs ys : List Int} (h : xs.length ≠ ys.length) : decide (xs = ys) = false := by
  rw [decide_eq_false_iff_not]
  intro e; rw [e] at h; exact h rfl
/-- A block of a fact's three slices. -/
abbrev FaO (C I N : Value) : Obj := .cells #[C, I, N] 32
def FBox (w : World) (K : Nat) (C I N : Value) : Prop := w.heap[K]? = some (.cells #[C, I, N] 32 (0, 0))
theorem FBox.reads {w : World} {K : Nat} {C I N : Value} (h : FBox w K C I N) : w.cell? ⟨K, 0, none⟩ = some C ∧ w.cell? ⟨K, 1, none⟩ = some I ∧ w.cell? ⟨K, 2, none⟩ = some N := by
  unfold FBox at h
  refine ⟨by simp [World.cell?, h], by simp [World.cell?, h], by simp [World.cell?, h]⟩
theorem FBox.free {w : World} {K : Nat} {C I N : Value} (h : FBox w K C I N) : w.frozen? ⟨K, 0, none⟩ = false ∧ w.frozen? ⟨K, 1, none⟩ = false ∧ w.frozen? ⟨K, 2, none⟩ = false := by
  unfold FBox at h
  refine ⟨by simp [World.frozen?, h], by simp [World.frozen?, h], by simp [World.frozen?, h]⟩
theorem FBox.lt {w : World} {K : Nat} {C I N : Value} (h : FBox w K C I N) : K < w.heap.size := (Array.getElem?_eq_some_iff.1 h).1
theorem FBox.below {w w' : World} {K : Nat} {C I N : Value} (h : FBox w K C I N) (hb : Below w.heap.size w w') : FBox w' K C I N := by
  unfold FBox; rw [hb.block K h.lt]; exact h
theorem FBox.grown {w w' : World} {K M : Nat} {C I N : Value} (h : FBox w K C I N) (hg : w.grownBy w' (some M)) (hne : K ≠ M) : FBox w' K C I N := by
  unfold FBox; rw [hg.block K h.lt (by simpa using hne)]; exact h
theorem FBox.set0 {w : World} {K : Nat} {C I N u : Value} (h : FBox w K C I N) : FBox (w.setCell ⟨K, 0, none⟩ u) K u I N := heap_setCell_same w K 0 _ _ u h
theorem FBox.set1 {w : World} {K : Nat} {C I N u : Value} (h : FBox w K C I N) : FBox (w.setCell ⟨K, 1, none⟩ u) K C u N := heap_setCell_same w K 1 _ _ u h
theorem fbox_new (w : World) (C I N : Value) : FBox (w.alloc (FaO C I N)) w.heap.size C I N := heap_alloc_new w _
set_option maxRecDepth 100000
open Go.RowKit
set_option linter.unusedVariables false
set_option maxRecDepth 100000
open Go.RowKit
set_option linter.unusedVariables false
end Go.Proofs.YtigikgphipebiaaGreatDoor
