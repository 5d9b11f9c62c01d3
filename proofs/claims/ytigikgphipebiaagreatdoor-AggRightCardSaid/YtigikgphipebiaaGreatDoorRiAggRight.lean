/- AggRight: for any schema, any set of dimensions and any two cells the statement's function returns true and changes nothing that was there. No condition; the row lists the two tables of math/bits as the program's text lays them. -/
import Derived.SevenTiedAt
import Derived.Test.YtigikgphipebiaaGreatDoorRows
import Derived.Test.YtigikgphipebiaaGreatDoorCards
import Derived.Test.YtigikgphipebiaaGreatDoorTie
import Derived.Test.YtigikgphipebiaaGreatDoorRi18
import Derived.Test.YtigikgphipebiaaGreatDoorRi28
import Derived.Test.YtigikgphipebiaaGreatDoorRi29
import Derived.Test.YtigikgphipebiaaGreatDoorRi31
import Derived.Test.YtigikgphipebiaaGreatDoorRi33
import Derived.Test.YtigikgphipebiaaGreatDoorRi34
import Derived.Test.YtigikgphipebiaaGreatDoorRi39
namespace Go.Proofs.YtigikgphipebiaaGreatDoor.aggRight
set_option maxRecDepth 100000
open Go.ChangeShapes Go.WideShapes Go.ChangeAt Go.RowKit
set_option linter.unusedVariables false
theorem hold8r {w w' : World} (hb : Below w.heap.size w w') {p0 p1 p2 p3 : Addr} {v0 v1 v2 v3 : Value}
    (h : w.cell? p0 = some v0 ∧ w.cell? p1 = some v1 ∧ w.cell? p2 = some v2 ∧ w.cell? p3 = some v3) : w'.cell? p0 = some v0 ∧ w'.cell? p1 = some v1 ∧ w'.cell? p2 = some v2 ∧ w'.cell? p3 = some v3 := by
  obtain ⟨h0, h1, h2, h3⟩ := h
  exact ⟨cell_later hb h0, cell_later hb h1, cell_later hb h2, cell_later hb h3⟩
theorem row8 {w : World} {P : Nat} {T : TypeId} {a b c d e f g h : Value} (H : w.heap[P]? = some (.cells #[a, b, c, d, e, f, g, h] T (0, 0))) : w.cell? ⟨P, 0, none⟩ = some a ∧ w.cell? ⟨P, 1, none⟩ = some b ∧ w.cell? ⟨P, 2, none⟩ = some c ∧ w.cell? ⟨P, 3, none⟩ = some d ∧ w.cell? ⟨P, 4, none⟩ = some e ∧ w.cell? ⟨P, 5, none⟩ = some f ∧ w.cell? ⟨P, 6, none⟩ = some g ∧ w.cell? ⟨P, 7, none⟩ = some h := by
  refine ⟨by simp [World.cell?, H], by simp [World.cell?, H], by simp [World.cell?, H], by simp [World.cell?, H], by simp [World.cell?, H], by simp [World.cell?, H], by simp [World.cell?, H], by simp [World.cell?, H]⟩
theorem sameC_refl (a : Ce) : sameC a a = true := same_iff.2 ⟨rfl, rfl, rfl, rfl, fun k _ => by simp [sameWh], fun k _ => by simp [sameRe, same_self]⟩
theorem vsame {l : List Int} {X : Nat} (hX : W64 X) (h1 : errN l = 0 → sameB (valueW (readF l) (readT l)) X = true) (h2 : errN l ≠ 0 → X = 0) (w : World) :
    Calls Tryz.prog 22 #[.float .f64 (if errN l = 0 then valueW (readF l) (readT l) else 0), .float .f64 X] w (fun e w' => e = .returned (.bool true) ∧ Drawn w w') := by
  by_cases he : errN l = 0
  · rw [if_pos he]
    have h := rsame_any (valueW (readF l) (readT l)) X w (valueW_w64 _ _) hX
    rw [h1 he] at h
    exact h
  · rw [if_neg he, h2 he]
    have h := rsame_any 0 0 w (by unfold W64; decide) (by unfold W64; decide)
    rw [same_self] at h
    exact h
set_option maxHeartbeats 16000000 in
theorem walk (D I M V : Value) (S : Sc) (m : Int) (P Q : Value) (a : Ce) (P' Q' : Value) (b : Ce) (w : World) (h : Sch4 w D I M V S) (hw : SWf S) (hm : 0 ≤ m ∧ m ≤ 4294967295) (ka : CeM w P Q a) (ha : CeW a) (kb : CeM w P' Q' b) (hb : CeW b) (hT : Tab w) (hT2 : Tab64 w) :
    Calls Tryz.prog 5 #[SchV D I M V, .int .u32 m, CeV2 a P Q b P' Q'] w fun e w' => e = .returned (.bool true) ∧ Below w.heap.size w w' := by
  have HA := Lib.hid (fun w1 (hb1 : Below w.heap.size w w1) => awake14_any w1 (hT.call hb1) (hT2.call hb1))
  have HTb := Lib.hid (fun w1 (hb1 : Below w.heap.size w w1) => hT.call hb1)
  have HL := Lib.hid (fun w1 (hb : Below w.heap.size w w1) => slight_any w1 D I M V S (h.below hb))
  have HLa := Lib.hid (fun w1 (hb : Below w.heap.size w w1) => rlight_any w1 a P Q (ka.below hb))
  have HLb := Lib.hid (fun w1 (hb : Below w.heap.size w w1) => rlight_any w1 b P' Q' (kb.below hb))
  have HPR := Lib.hid (fun w1 (hb : Below w.heap.size w w1) => pright_any w1 D I M V P Q S m a (h.below hb) hw (ka.below hb) ha hm.1 hm.2)
  have HRR := Lib.hid (fun w1 (hb : Below w.heap.size w w1) => rright14_any w1 D I M V P Q S m a (h.below hb) hw (ka.below hb) ha hm.1 hm.2)
  have HPS := Lib.hid (fun w1 (hb1 : Below w.heap.size w w1) => psame14_any w1 a b P Q P' Q' (ka.below hb1) (kb.below hb1) ha hb)
  have HRS := Lib.hid (fun w1 (hb1 : Below w.heap.size w w1) => rsame14_any w1 a b P Q P' Q' (ka.below hb1) (kb.below hb1) ha hb)
  have hsa := fun w1 (hb1 : Below w.heap.size w w1) => psame14_any w1 a a P Q P Q (ka.below hb1) (ka.below hb1) ha ha
  rw [sameC_refl] at hsa
  have HSA := Lib.hid hsa
  have HN := Lib.hid (fun w1 (hb : Below w.heap.size w w1) => ka.n.below hb)
  have HWa := Lib.hid ha
  have hb1 := below_one w (SchO D I M V)
  have hb2 := below_one (w.alloc (SchO D I M V)) (.cells #[.int .u64 a.key, .int .i64 a.cnt, P, Q, .int .u64 b.key, .int .i64 b.cnt, P', Q'] 57)
  have HB := Lib.hid (below_then hb1 hb2)
  have HX := Lib.hid ((box_new w D I M V).below hb2)
  have hy := heap_alloc_new (w.alloc (SchO D I M V)) (.cells #[.int .u64 a.key, .int .i64 a.cnt, P, Q, .int .u64 b.key, .int .i64 b.cnt, P', Q'] 57)
  rw [World.size_alloc] at hy
  have HY := Lib.hid hy
  obtain ⟨⟨a1, c1, rfl⟩, ⟨a2, c2, rfl⟩, ⟨a3, c3, rfl⟩, a4, c4, rfl⟩ := h.slices
  obtain ⟨⟨p, k1, rfl⟩, q, k2, rfl⟩ := ka.slices
  obtain ⟨⟨p', k1', rfl⟩, q', k2', rfl⟩ := kb.slices
  clear h hw hm ka ha kb hb hT hT2 hb1 hb2 hy hsa
  unfold CeV2
  generalize rightC S m a = RC at *
  generalize sameC a b = SB at *
  generalize lightC a = LA at *
  generalize lightC b = LB at *
  go_enter Tryz.func5, Tryz.ntmps5
  go_upto_region 1 with fail
  generalize (w.alloc (SchO (.slice a1 S.ds.length c1) (.slice a2 S.is.length c2) (.slice a3 S.ns.length c3) (.slice a4 S.vs.length c4))).alloc (.cells #[.int .u64 a.key, .int .i64 a.cnt, .slice p a.is.length k1, .slice q a.ns.length k2, .int .u64 b.key, .int .i64 b.cnt, .slice p' b.is.length k1', .slice q' b.ns.length k2'] 57) = W at *
  go_cut [7, 8] from 10 to 74 (fun v7 v8 wx => ∃ A B : Nat, v7 = .pointer (some ⟨A, 0, none⟩) ∧ v8 = .pointer (some ⟨B, 0, none⟩) ∧ Hid (TwoAt 41 W A B #[.int .u64 a.key, .int .i64 a.cnt, .slice p a.is.length k1, .slice q a.ns.length k2] #[.int .u64 b.key, .int .i64 b.cnt, .slice p' b.is.length k1', .slice q' b.ns.length k2'] wx))
  case first =>
    have hk0 : W.cell? ⟨w.heap.size + 1, 0, none⟩ = some (.int .u64 a.key) ∧ W.cell? ⟨w.heap.size + 1, 1, none⟩ = some (.int .i64 a.cnt) ∧ W.cell? ⟨w.heap.size + 1, 2, none⟩ = some (.slice p a.is.length k1) ∧ W.cell? ⟨w.heap.size + 1, 3, none⟩ = some (.slice q a.ns.length k2) ∧ W.cell? ⟨w.heap.size + 1, 4, none⟩ = some (.int .u64 b.key) ∧ W.cell? ⟨w.heap.size + 1, 5, none⟩ = some (.int .i64 b.cnt) ∧ W.cell? ⟨w.heap.size + 1, 6, none⟩ = some (.slice p' b.is.length k1') ∧ W.cell? ⟨w.heap.size + 1, 7, none⟩ = some (.slice q' b.ns.length k2') := by
      have hr := row8 HY.out
      simpa using hr
    have hk : W.drew.cell? ⟨w.heap.size + 1, 0, none⟩ = some (.int .u64 a.key) ∧ W.drew.cell? ⟨w.heap.size + 1, 1, none⟩ = some (.int .i64 a.cnt) ∧ W.drew.cell? ⟨w.heap.size + 1, 2, none⟩ = some (.slice p a.is.length k1) ∧ W.drew.cell? ⟨w.heap.size + 1, 3, none⟩ = some (.slice q a.ns.length k2) ∧ W.drew.cell? ⟨w.heap.size + 1, 4, none⟩ = some (.int .u64 b.key) ∧ W.drew.cell? ⟨w.heap.size + 1, 5, none⟩ = some (.int .i64 b.cnt) ∧ W.drew.cell? ⟨w.heap.size + 1, 6, none⟩ = some (.slice p' b.is.length k1') ∧ W.drew.cell? ⟨w.heap.size + 1, 7, none⟩ = some (.slice q' b.ns.length k2') := hk0
    have hlo : w.heap.size + 1 < W.heap.size := World.block_lt_of_cell? _ _ hk0.1
    go_region_held3 (fun w' => w'.cell? ⟨w.heap.size + 1, 0, none⟩ = some (.int .u64 a.key) ∧ w'.cell? ⟨w.heap.size + 1, 1, none⟩ = some (.int .i64 a.cnt) ∧ w'.cell? ⟨w.heap.size + 1, 2, none⟩ = some (.slice p a.is.length k1) ∧ w'.cell? ⟨w.heap.size + 1, 3, none⟩ = some (.slice q a.ns.length k2) ∧ w'.cell? ⟨w.heap.size + 1, 4, none⟩ = some (.int .u64 b.key) ∧ w'.cell? ⟨w.heap.size + 1, 5, none⟩ = some (.int .i64 b.cnt) ∧ w'.cell? ⟨w.heap.size + 1, 6, none⟩ = some (.slice p' b.is.length k1') ∧ w'.cell? ⟨w.heap.size + 1, 7, none⟩ = some (.slice q' b.ns.length k2')) (first | (with_reducible exact hk) | exact hold8 (by repeat' first | exact Below.refl _ _ | refine Below.drew ?_ | refine Below.alloc ?_ (by first | exact Nat.le_refl _ | (simp; done) | (simp; omega)) _ | refine Below.setCell ?_ (by first | exact Nat.le_refl _ | (simp; done) | (simp; omega)) _) hk0) (fail)
    · go_wp2_with fail
      go_meet
      exact ⟨_, _, rfl, rfl, Lib.hid two_made⟩
    · go_wp2_with fail
      go_meet
      exact ⟨_, _, rfl, rfl, Lib.hid two_turned⟩
  case rest =>
    obtain ⟨A, B, rfl, rfl, hT⟩ := hcut
    have HBc := Lib.hid (below_then HB.out hT.out.2.2.1)
    obtain ⟨x0, x1, x2, x3⟩ := (HX.out.below hT.out.2.2.1).reads
    obtain ⟨y0, y1, y2, y3⟩ := row4 hT.out.1
    obtain ⟨z0, z1, z2, z3⟩ := row4 hT.out.2.1
    have HK := Lib.hid (show wc.cell? ⟨w.heap.size, 0, none⟩ = some (.slice a1 S.ds.length c1) ∧ wc.cell? ⟨w.heap.size, 1, none⟩ = some (.slice a2 S.is.length c2) ∧ wc.cell? ⟨w.heap.size, 2, none⟩ = some (.slice a3 S.ns.length c3) ∧ wc.cell? ⟨w.heap.size, 3, none⟩ = some (.slice a4 S.vs.length c4) ∧ wc.cell? ⟨A, 0, none⟩ = some (.int .u64 a.key) ∧ wc.cell? ⟨A, 1, none⟩ = some (.int .i64 a.cnt) ∧ wc.cell? ⟨A, 2, none⟩ = some (.slice p a.is.length k1) ∧ wc.cell? ⟨A, 3, none⟩ = some (.slice q a.ns.length k2) ∧ wc.cell? ⟨B, 0, none⟩ = some (.int .u64 b.key) ∧ wc.cell? ⟨B, 1, none⟩ = some (.int .i64 b.cnt) ∧ wc.cell? ⟨B, 2, none⟩ = some (.slice p' b.is.length k1') ∧ wc.cell? ⟨B, 3, none⟩ = some (.slice q' b.ns.length k2') from ⟨x0, x1, x2, x3, y0, y1, y2, y3, z0, z1, z2, z3⟩)
    clear hT HX HY HB
    go_wp2_with fail
    refine (HL.out _ HBc.out).mono ?_; rintro e w1 ⟨⟨bl, rfl⟩, hb⟩
    have HB1 := Lib.hid (below_then HBc.out hb)
    have HK1 := Lib.hid (hold12 hb HK.out)
    clear x0 x1 x2 x3 y0 y1 y2 y3 z0 z1 z2 z3 hb HL HK HBc
    obtain ⟨x0, x1, x2, x3, y0, y1, y2, y3, z0, z1, z2, z3⟩ := HK1.out
    cases bl with
    | false =>
      go_wp2_with fail
      refine (HA.out _ HB1.out).mono ?_; rintro e wA ⟨rfl, hbA⟩
      have HBA := Lib.hid (below_then HB1.out hbA)
      clear hbA
      go_wp2_with fail
      go_ret
      exact ⟨rfl, HBA.out⟩
    | true =>
      go_wp2_with fail
      refine (HLa.out _ HB1.out).mono ?_; rintro e w2 ⟨rfl, hb⟩
      have HB2 := Lib.hid (below_then HB1.out hb)
      have HK2 := Lib.hid (hold12 hb HK1.out)
      clear x0 x1 x2 x3 y0 y1 y2 y3 z0 z1 z2 z3 hb HLa HK1 HB1
      obtain ⟨x0, x1, x2, x3, y0, y1, y2, y3, z0, z1, z2, z3⟩ := HK2.out
      cases LA with
      | false =>
        go_wp2_with fail
        refine (HA.out _ HB2.out).mono ?_; rintro e wA ⟨rfl, hbA⟩
        have HBA := Lib.hid (below_then HB2.out hbA)
        clear hbA
        go_wp2_with fail
        go_ret
        exact ⟨rfl, HBA.out⟩
      | true =>
        go_wp2_with fail
        refine (HLb.out _ HB2.out).mono ?_; rintro e w3 ⟨rfl, hb⟩
        have HB3 := Lib.hid (below_then HB2.out hb)
        have HK3 := Lib.hid (hold12 hb HK2.out)
        clear x0 x1 x2 x3 y0 y1 y2 y3 z0 z1 z2 z3 hb HLb HK2 HB2
        obtain ⟨x0, x1, x2, x3, y0, y1, y2, y3, z0, z1, z2, z3⟩ := HK3.out
        cases LB with
        | false =>
          go_wp2_with fail
          refine (HA.out _ HB3.out).mono ?_; rintro e wA ⟨rfl, hbA⟩
          have HBA := Lib.hid (below_then HB3.out hbA)
          clear hbA
          go_wp2_with fail
          go_ret
          exact ⟨rfl, HBA.out⟩
        | true =>
          have hmn : a.ns.length ≤ 9223372036854775807 := by obtain ⟨_, _, _, _, h, _⟩ := HN.out _ HB3.out; exact h
          go_wp2_with fail
          clear x0 x1 x2 x3 y0 y1 y2 y3 z0 z1 z2 z3
          go_loopw [9] (fun i wr => ∃ k : Nat, k ≤ a.ns.length ∧ i = .int .i64 k ∧ Hid (Below w.heap.size w wr) ∧ Hid (wr.cell? ⟨w.heap.size, 0, none⟩ = some (.slice a1 S.ds.length c1) ∧ wr.cell? ⟨w.heap.size, 1, none⟩ = some (.slice a2 S.is.length c2) ∧ wr.cell? ⟨w.heap.size, 2, none⟩ = some (.slice a3 S.ns.length c3) ∧ wr.cell? ⟨w.heap.size, 3, none⟩ = some (.slice a4 S.vs.length c4) ∧ wr.cell? ⟨A, 0, none⟩ = some (.int .u64 a.key) ∧ wr.cell? ⟨A, 1, none⟩ = some (.int .i64 a.cnt) ∧ wr.cell? ⟨A, 2, none⟩ = some (.slice p a.is.length k1) ∧ wr.cell? ⟨A, 3, none⟩ = some (.slice q a.ns.length k2) ∧ wr.cell? ⟨B, 0, none⟩ = some (.int .u64 b.key) ∧ wr.cell? ⟨B, 1, none⟩ = some (.int .i64 b.cnt) ∧ wr.cell? ⟨B, 2, none⟩ = some (.slice p' b.is.length k1') ∧ wr.cell? ⟨B, 3, none⟩ = some (.slice q' b.ns.length k2'))) (fun i _ => a.ns.length - (intOf i).toNat)
          case atStart => exact ⟨0, Nat.zero_le _, rfl, HB3, HK3⟩
          case round =>
            obtain ⟨k, hk, rfl, HBk, HKk⟩ := hrel
            obtain ⟨x0, x1, x2, x3, y0, y1, y2, y3, z0, z1, z2, z3⟩ := HKk.out
            by_cases hlk : k < a.ns.length
            · have hlk' : (k : Int) < (a.ns.length : Int) := by omega
              obtain ⟨bk, o, qv, rfl, hq⟩ := (HN.out _ HBk.out).at hlk
              have hle : Hid (k + 1 ≤ a.ns.length) := Lib.hid (by omega)
              obtain ⟨f0, f1, f2, f5⟩ := hq
              have hbt : Bt (rg a.ns k).sum := (HWa.out.rg hlk).sum
              clear hlk
              generalize (rg a.ns k).mn = mn1 at *
              generalize (rg a.ns k).mx = mx1 at *
              generalize (rg a.ns k).sum = lx at *
              have HF5 := Lib.hid f5
              obtain ⟨pq, cq, rfl, -, -⟩ := f5
              have HVp := Lib.hid (fun w1 (hb : Below wr.heap.size wr w1) => pvalue14_any w1 pq lx.length cq mn1 mx1 lx (HF5.out.below hb) hbt (HTb.out w1 (below_then HBk.out hb)))
              have HVr := Lib.hid (fun w1 (hb : Below wr.heap.size wr w1) => rvalue14_any w1 pq lx.length cq mn1 mx1 lx (HF5.out.below hb) hbt)
              have HVs := Lib.hid (fun X w1 hX h1 h2 => vsame (l := lx) (X := X) hX h1 h2 w1)
              unfold ValueP at HVp
              unfold RVal14 at HVr
              generalize (if errN lx = 0 then valueW (readF lx) (readT lx) else 0) = R at *
              go_upto_region 7 with fail
              have hk0 : wr.cell? ⟨A, 3, none⟩ = some (.slice (some ⟨bk, o, none⟩) a.ns.length k2) ∧ wr.cell? ⟨bk, o + k * 3, none⟩ = some (.slice pq lx.length cq) ∧ wr.cell? ⟨bk, o + k * 3 + 1, none⟩ = some (.float .f64 mn1) ∧ wr.cell? ⟨bk, o + k * 3 + 2, none⟩ = some (.float .f64 mx1) := ⟨y3, f0, f1, f2⟩
              have hk : wr.drew.cell? ⟨A, 3, none⟩ = some (.slice (some ⟨bk, o, none⟩) a.ns.length k2) ∧ wr.drew.cell? ⟨bk, o + k * 3, none⟩ = some (.slice pq lx.length cq) ∧ wr.drew.cell? ⟨bk, o + k * 3 + 1, none⟩ = some (.float .f64 mn1) ∧ wr.drew.cell? ⟨bk, o + k * 3 + 2, none⟩ = some (.float .f64 mx1) := hk0
              have hBw : Below wr.heap.size wr wr.drew := (Below.refl _ _).drew
              clear x0 x1 x2 x3 y0 y1 y2 y3 z0 z1 z2 z3 f0 f1 f2 hk0 HF5 hbt
              go_region_held3 (fun w' => w'.cell? ⟨A, 3, none⟩ = some (.slice (some ⟨bk, o, none⟩) a.ns.length k2) ∧ w'.cell? ⟨bk, o + k * 3, none⟩ = some (.slice pq lx.length cq) ∧ w'.cell? ⟨bk, o + k * 3 + 1, none⟩ = some (.float .f64 mn1) ∧ w'.cell? ⟨bk, o + k * 3 + 2, none⟩ = some (.float .f64 mx1)) (with_reducible exact hk)
                (first
                  | (go_at_call 23; refine (HVp.out _ hBw).mono ?_; rintro r wv ⟨rfl, hb⟩; have hk := hold8r hb hk; have hBw := below_then hBw hb; clear hb)
                  | (go_at_call 24; refine (HVr.out _ hBw).mono ?_; rintro r wv ⟨⟨X, hX, hX1, hX2, rfl⟩, hb⟩; have HXX := Lib.hid (And.intro hX (And.intro hX1 hX2)); have hk := hold8r hb hk; have hBw := below_then hBw hb; clear hb hX hX1 hX2)
                  | (go_at_call 22; refine (HVs.out _ _ HXX.out.1 HXX.out.2.1 HXX.out.2.2).mono ?_; rintro r wv ⟨rfl, hd⟩; have hk := hold8r hd.below hk; have hBw := below_then hBw hd.below; clear hd))
              all_goals
                have HBn := Lib.hid (below_then HBk.out hBw)
                have HKn := Lib.hid (hold12 hBw HKk.out)
                clear hk hBw
                go_wp2_with fail
                go_roundw
                case rel => exact ⟨k + 1, hle.out, by go_num, HBn, HKn⟩
                case measure => simp [intOf]; omega
            · have : k = a.ns.length := by omega
              subst this
              go_upto_region 9 with fail
              have hk : wr.drew.cell? ⟨w.heap.size, 0, none⟩ = some (.slice a1 S.ds.length c1) ∧ wr.drew.cell? ⟨w.heap.size, 1, none⟩ = some (.slice a2 S.is.length c2) ∧ wr.drew.cell? ⟨w.heap.size, 2, none⟩ = some (.slice a3 S.ns.length c3) ∧ wr.drew.cell? ⟨w.heap.size, 3, none⟩ = some (.slice a4 S.vs.length c4) ∧ wr.drew.cell? ⟨A, 0, none⟩ = some (.int .u64 a.key) ∧ wr.drew.cell? ⟨A, 1, none⟩ = some (.int .i64 a.cnt) ∧ wr.drew.cell? ⟨A, 2, none⟩ = some (.slice p a.is.length k1) ∧ wr.drew.cell? ⟨A, 3, none⟩ = some (.slice q a.ns.length k2) ∧ wr.drew.cell? ⟨B, 0, none⟩ = some (.int .u64 b.key) ∧ wr.drew.cell? ⟨B, 1, none⟩ = some (.int .i64 b.cnt) ∧ wr.drew.cell? ⟨B, 2, none⟩ = some (.slice p' b.is.length k1') ∧ wr.drew.cell? ⟨B, 3, none⟩ = some (.slice q' b.ns.length k2') := HKk.out
              have hBw : Below w.heap.size w wr.drew := HBk.out.drew
              have hRC : (RC == RC) = true := by simp
              have hSB : (SB == SB) = true := by simp
              clear x0 x1 x2 x3 y0 y1 y2 y3 z0 z1 z2 z3 HKk HBk HN HWa HTb HK3 HB3
              refine wp_region_held_drew (S := fun w' => w'.cell? ⟨w.heap.size, 0, none⟩ = some (.slice a1 S.ds.length c1) ∧ w'.cell? ⟨w.heap.size, 1, none⟩ = some (.slice a2 S.is.length c2) ∧ w'.cell? ⟨w.heap.size, 2, none⟩ = some (.slice a3 S.ns.length c3) ∧ w'.cell? ⟨w.heap.size, 3, none⟩ = some (.slice a4 S.vs.length c4) ∧ w'.cell? ⟨A, 0, none⟩ = some (.int .u64 a.key) ∧ w'.cell? ⟨A, 1, none⟩ = some (.int .i64 a.cnt) ∧ w'.cell? ⟨A, 2, none⟩ = some (.slice p a.is.length k1) ∧ w'.cell? ⟨A, 3, none⟩ = some (.slice q a.ns.length k2) ∧ w'.cell? ⟨B, 0, none⟩ = some (.int .u64 b.key) ∧ w'.cell? ⟨B, 1, none⟩ = some (.int .i64 b.cnt) ∧ w'.cell? ⟨B, 2, none⟩ = some (.slice p' b.is.length k1') ∧ w'.cell? ⟨B, 3, none⟩ = some (.slice q' b.ns.length k2')) (by kernel_rfl) hk (fun _ => ?_)
              refine wpAnyH_take (i := 0) (oi := { dst := some 49, op := _, type := _, pos := _, after := _, guard := _ }) (v := .agg #[.slice a1 S.ds.length c1, .slice a2 S.is.length c2, .slice a3 S.ns.length c3, .slice a4 S.vs.length c4]) rfl (by kernel_rfl) (by kernel_rfl) (by kernel_rfl) (fun _ _ _ h => h) (Or.inl ⟨by kernel_rfl, fun w hSw => by (try dsimp only at hSw); first | (go_simp; done) | (go_simp; rfl)⟩) hk ?_
              try simp only [Act.put, List.setIfInBounds_toArray, List.set_cons_zero, List.set_cons_succ]
              refine wpAnyH_take (i := 1) (oi := { dst := some 50, op := _, type := _, pos := _, after := _, guard := _ }) (v := .int .u32 m) rfl (by kernel_rfl) (by kernel_rfl) (by kernel_rfl) (fun _ _ _ h => h) (Or.inl ⟨by kernel_rfl, fun w hSw => by (try dsimp only at hSw); first | (go_simp; done) | (go_simp; rfl)⟩) hk ?_
              try simp only [Act.put, List.setIfInBounds_toArray, List.set_cons_zero, List.set_cons_succ]
              refine wpAnyH_take (i := 2) (oi := { dst := some 51, op := _, type := _, pos := _, after := _, guard := _ }) (v := .agg #[.int .u64 a.key, .int .i64 a.cnt, .slice p a.is.length k1, .slice q a.ns.length k2]) rfl (by kernel_rfl) (by kernel_rfl) (by kernel_rfl) (fun _ _ _ h => h) (Or.inl ⟨by kernel_rfl, fun w hSw => by (try dsimp only at hSw); first | (go_simp; done) | (go_simp; rfl)⟩) hk ?_
              try simp only [Act.put, List.setIfInBounds_toArray, List.set_cons_zero, List.set_cons_succ]
              refine wpAnyH_take (i := 4) (oi := { dst := some 53, op := _, type := _, pos := _, after := _, guard := _ }) (v := .agg #[.slice a1 S.ds.length c1, .slice a2 S.is.length c2, .slice a3 S.ns.length c3, .slice a4 S.vs.length c4]) rfl (by kernel_rfl) (by kernel_rfl) (by kernel_rfl) (fun _ _ _ h => h) (Or.inl ⟨by kernel_rfl, fun w hSw => by (try dsimp only at hSw); first | (go_simp; done) | (go_simp; rfl)⟩) hk ?_
              try simp only [Act.put, List.setIfInBounds_toArray, List.set_cons_zero, List.set_cons_succ]
              refine wpAnyH_take (i := 5) (oi := { dst := some 54, op := _, type := _, pos := _, after := _, guard := _ }) (v := .int .u32 m) rfl (by kernel_rfl) (by kernel_rfl) (by kernel_rfl) (fun _ _ _ h => h) (Or.inl ⟨by kernel_rfl, fun w hSw => by (try dsimp only at hSw); first | (go_simp; done) | (go_simp; rfl)⟩) hk ?_
              try simp only [Act.put, List.setIfInBounds_toArray, List.set_cons_zero, List.set_cons_succ]
              refine wpAnyH_take (i := 6) (oi := { dst := some 55, op := _, type := _, pos := _, after := _, guard := _ }) (v := .agg #[.int .u64 a.key, .int .i64 a.cnt, .slice p a.is.length k1, .slice q a.ns.length k2]) rfl (by kernel_rfl) (by kernel_rfl) (by kernel_rfl) (fun _ _ _ h => h) (Or.inl ⟨by kernel_rfl, fun w hSw => by (try dsimp only at hSw); first | (go_simp; done) | (go_simp; rfl)⟩) hk ?_
              try simp only [Act.put, List.setIfInBounds_toArray, List.set_cons_zero, List.set_cons_succ]
              refine wpAnyH_ready (rs := [3]) (by kernel_rfl) (by simp) (AllReadyH.cons rfl (fun K' hK => ?_) AllReadyH.nil)
              rw [if_pos (by kernel_rfl)]
              go_simp
              go_at_call 18
              refine (HPR.out _ hBw).mono ?_; rintro r wv ⟨rfl, hb⟩; have hk := hold12 hb hk; have hBw := below_then hBw hb; clear hb
              refine hK.out _ _ hk (fun _ => ?_)
              try simp only [Act.put, List.setIfInBounds_toArray, List.set_cons_zero, List.set_cons_succ]
              refine wpAnyH_ready (rs := [7]) (by kernel_rfl) (by simp) (AllReadyH.cons rfl (fun K' hK => ?_) AllReadyH.nil)
              rw [if_pos (by kernel_rfl)]
              go_simp
              go_at_call 25
              refine (HRR.out _ hBw).mono ?_; rintro r wv ⟨rfl, hb⟩; have hk := hold12 hb hk; have hBw := below_then hBw hb; clear hb
              refine hK.out _ _ hk (fun _ => ?_)
              try simp only [Act.put, List.setIfInBounds_toArray, List.set_cons_zero, List.set_cons_succ]
              refine wpAnyH_take (i := 8) (oi := { dst := some 57, op := _, type := _, pos := _, after := _, guard := _ }) (v := .bool true) rfl (by kernel_rfl) (by kernel_rfl) (by kernel_rfl) (fun _ _ _ h => h) (Or.inl ⟨by kernel_rfl, fun w hSw => by (try dsimp only at hSw); first | (go_simp; done) | (go_simp; rfl)⟩) hk ?_
              try simp only [Act.put, List.setIfInBounds_toArray, List.set_cons_zero, List.set_cons_succ]
              refine wpAnyH_take (i := 9) (oi := { dst := some 58, op := _, type := _, pos := _, after := _, guard := _ }) (v := .bool true) rfl (by kernel_rfl) (by kernel_rfl) (by kernel_rfl) (fun _ _ _ h => h) (Or.inl ⟨by kernel_rfl, fun w hSw => by (try dsimp only at hSw); first | (go_simp; done) | (go_simp; rfl)⟩) hk ?_
              try simp only [Act.put, List.setIfInBounds_toArray, List.set_cons_zero, List.set_cons_succ]
              refine wpAnyH_take (i := 10) (oi := { dst := some 59, op := _, type := _, pos := _, after := _, guard := _ }) (v := .agg #[.int .u64 a.key, .int .i64 a.cnt, .slice p a.is.length k1, .slice q a.ns.length k2]) rfl (by kernel_rfl) (by kernel_rfl) (by kernel_rfl) (fun _ _ _ h => h) (Or.inl ⟨by kernel_rfl, fun w hSw => by (try dsimp only at hSw); first | (go_simp; done) | (go_simp; rfl)⟩) hk ?_
              try simp only [Act.put, List.setIfInBounds_toArray, List.set_cons_zero, List.set_cons_succ]
              refine wpAnyH_take (i := 11) (oi := { dst := some 60, op := _, type := _, pos := _, after := _, guard := _ }) (v := .agg #[.int .u64 b.key, .int .i64 b.cnt, .slice p' b.is.length k1', .slice q' b.ns.length k2']) rfl (by kernel_rfl) (by kernel_rfl) (by kernel_rfl) (fun _ _ _ h => h) (Or.inl ⟨by kernel_rfl, fun w hSw => by (try dsimp only at hSw); first | (go_simp; done) | (go_simp; rfl)⟩) hk ?_
              try simp only [Act.put, List.setIfInBounds_toArray, List.set_cons_zero, List.set_cons_succ]
              refine wpAnyH_take (i := 13) (oi := { dst := some 62, op := _, type := _, pos := _, after := _, guard := _ }) (v := .agg #[.int .u64 a.key, .int .i64 a.cnt, .slice p a.is.length k1, .slice q a.ns.length k2]) rfl (by kernel_rfl) (by kernel_rfl) (by kernel_rfl) (fun _ _ _ h => h) (Or.inl ⟨by kernel_rfl, fun w hSw => by (try dsimp only at hSw); first | (go_simp; done) | (go_simp; rfl)⟩) hk ?_
              try simp only [Act.put, List.setIfInBounds_toArray, List.set_cons_zero, List.set_cons_succ]
              refine wpAnyH_take (i := 14) (oi := { dst := some 63, op := _, type := _, pos := _, after := _, guard := _ }) (v := .agg #[.int .u64 b.key, .int .i64 b.cnt, .slice p' b.is.length k1', .slice q' b.ns.length k2']) rfl (by kernel_rfl) (by kernel_rfl) (by kernel_rfl) (fun _ _ _ h => h) (Or.inl ⟨by kernel_rfl, fun w hSw => by (try dsimp only at hSw); first | (go_simp; done) | (go_simp; rfl)⟩) hk ?_
              try simp only [Act.put, List.setIfInBounds_toArray, List.set_cons_zero, List.set_cons_succ]
              refine wpAnyH_ready (rs := [12]) (by kernel_rfl) (by simp) (AllReadyH.cons rfl (fun K' hK => ?_) AllReadyH.nil)
              rw [if_pos (by kernel_rfl)]
              go_simp
              go_at_call 26
              refine (HPS.out _ hBw).mono ?_; rintro r wv ⟨rfl, hb⟩; have hk := hold12 hb hk; have hBw := below_then hBw hb; clear hb
              refine hK.out _ _ hk (fun _ => ?_)
              try simp only [Act.put, List.setIfInBounds_toArray, List.set_cons_zero, List.set_cons_succ]
              refine wpAnyH_ready (rs := [15]) (by kernel_rfl) (by simp) (AllReadyH.cons rfl (fun K' hK => ?_) AllReadyH.nil)
              rw [if_pos (by kernel_rfl)]
              go_simp
              go_at_call 16
              refine (HRS.out _ hBw).mono ?_; rintro r wv ⟨rfl, hb⟩; have hk := hold12 hb hk; have hBw := below_then hBw hb; clear hb
              refine hK.out _ _ hk (fun _ => ?_)
              try simp only [Act.put, List.setIfInBounds_toArray, List.set_cons_zero, List.set_cons_succ]
              refine wpAnyH_take (i := 16) (oi := { dst := some 65, op := _, type := _, pos := _, after := _, guard := _ }) (v := .bool true) rfl (by kernel_rfl) (by kernel_rfl) (by kernel_rfl) (fun _ _ _ h => h) (Or.inl ⟨by kernel_rfl, fun w hSw => by (try dsimp only at hSw); first | (go_simp; done) | (go_simp; rfl)⟩) hk ?_
              try simp only [Act.put, List.setIfInBounds_toArray, List.set_cons_zero, List.set_cons_succ]
              refine wpAnyH_take (i := 17) (oi := { dst := some 66, op := _, type := _, pos := _, after := _, guard := _ }) (v := .bool true) rfl (by kernel_rfl) (by kernel_rfl) (by kernel_rfl) (fun _ _ _ h => h) (Or.inl ⟨by kernel_rfl, fun w hSw => by (try dsimp only at hSw); first | (go_simp; done) | (go_simp; rfl)⟩) hk ?_
              try simp only [Act.put, List.setIfInBounds_toArray, List.set_cons_zero, List.set_cons_succ]
              refine wpAnyH_take (i := 18) (oi := { dst := some 67, op := _, type := _, pos := _, after := _, guard := _ }) (v := .bool true) rfl (by kernel_rfl) (by kernel_rfl) (by kernel_rfl) (fun _ _ _ h => h) (Or.inl ⟨by kernel_rfl, fun w hSw => by (try dsimp only at hSw); first | (go_simp; done) | (go_simp; rfl)⟩) hk ?_
              try simp only [Act.put, List.setIfInBounds_toArray, List.set_cons_zero, List.set_cons_succ]
              refine wpAnyH_take (i := 19) (oi := { dst := some 68, op := _, type := _, pos := _, after := _, guard := _ }) (v := .agg #[.int .u64 a.key, .int .i64 a.cnt, .slice p a.is.length k1, .slice q a.ns.length k2]) rfl (by kernel_rfl) (by kernel_rfl) (by kernel_rfl) (fun _ _ _ h => h) (Or.inl ⟨by kernel_rfl, fun w hSw => by (try dsimp only at hSw); first | (go_simp; done) | (go_simp; rfl)⟩) hk ?_
              try simp only [Act.put, List.setIfInBounds_toArray, List.set_cons_zero, List.set_cons_succ]
              refine wpAnyH_take (i := 20) (oi := { dst := some 69, op := _, type := _, pos := _, after := _, guard := _ }) (v := .agg #[.int .u64 a.key, .int .i64 a.cnt, .slice p a.is.length k1, .slice q a.ns.length k2]) rfl (by kernel_rfl) (by kernel_rfl) (by kernel_rfl) (fun _ _ _ h => h) (Or.inl ⟨by kernel_rfl, fun w hSw => by (try dsimp only at hSw); first | (go_simp; done) | (go_simp; rfl)⟩) hk ?_
              try simp only [Act.put, List.setIfInBounds_toArray, List.set_cons_zero, List.set_cons_succ]
              refine wpAnyH_ready (rs := [21]) (by kernel_rfl) (by simp) (AllReadyH.cons rfl (fun K' hK => ?_) AllReadyH.nil)
              rw [if_pos (by kernel_rfl)]
              go_simp
              go_at_call 26
              refine (HSA.out _ hBw).mono ?_; rintro r wv ⟨rfl, hb⟩; have hk := hold12 hb hk; have hBw := below_then hBw hb; clear hb
              refine hK.out _ _ hk (fun _ => ?_)
              try simp only [Act.put, List.setIfInBounds_toArray, List.set_cons_zero, List.set_cons_succ]
              refine wpAnyH_take (i := 22) (oi := { dst := some 71, op := _, type := _, pos := _, after := _, guard := _ }) (v := .bool true) rfl (by kernel_rfl) (by kernel_rfl) (by kernel_rfl) (fun _ _ _ h => h) (Or.inl ⟨by kernel_rfl, fun w hSw => by (try dsimp only at hSw); first | (go_simp; done) | (go_simp; rfl)⟩) hk ?_
              try simp only [Act.put, List.setIfInBounds_toArray, List.set_cons_zero, List.set_cons_succ]
              refine wpAnyH_take (i := 23) (oi := { dst := some 72, op := _, type := _, pos := _, after := _, guard := _ }) (v := .bool true) rfl (by kernel_rfl) (by kernel_rfl) (by kernel_rfl) (fun _ _ _ h => h) (Or.inl ⟨by kernel_rfl, fun w hSw => by (try dsimp only at hSw); first | (go_simp; done) | (go_simp; rfl)⟩) hk ?_
              try simp only [Act.put, List.setIfInBounds_toArray, List.set_cons_zero, List.set_cons_succ]
              refine wpAnyH_ready (rs := [24]) (by kernel_rfl) (by simp) (AllReadyH.cons rfl (fun K' hK => ?_) AllReadyH.nil)
              rw [if_pos (by kernel_rfl)]
              go_simp
              go_at_call 10
              refine (HA.out _ hBw).mono ?_; rintro r wv ⟨rfl, hb⟩; have hk := hold12 hb hk; have hBw := below_then hBw hb; clear hb
              refine hK.out _ _ hk (fun _ => ?_)
              try simp only [Act.put, List.setIfInBounds_toArray, List.set_cons_zero, List.set_cons_succ]
              refine wpAnyH_take (i := 25) (oi := { dst := some 74, op := _, type := _, pos := _, after := _, guard := _ }) (v := .bool true) rfl (by kernel_rfl) (by kernel_rfl) (by kernel_rfl) (fun _ _ _ h => h) (Or.inl ⟨by kernel_rfl, fun w hSw => by (try dsimp only at hSw); first | (go_simp; done) | (go_simp; rfl)⟩) hk ?_
              try simp only [Act.put, List.setIfInBounds_toArray, List.set_cons_zero, List.set_cons_succ]
              refine wpAnyH_take (i := 26) (oi := { dst := some 6, op := _, type := _, pos := _, after := _, guard := _ }) (v := .bool true) rfl (by kernel_rfl) (by kernel_rfl) (by kernel_rfl) (fun _ _ _ h => h) (Or.inl ⟨by kernel_rfl, fun w hSw => by (try dsimp only at hSw); first | (go_simp; done) | (go_simp; rfl)⟩) hk ?_
              try simp only [Act.put, List.setIfInBounds_toArray, List.set_cons_zero, List.set_cons_succ]
              refine wpAnyH_done (by kernel_rfl) ?_ _
              have HBZ := Lib.hid hBw
              clear hk hBw
              go_wp2_with fail
              go_ret
              exact ⟨rfl, HBZ.out⟩
set_option maxRecDepth 100000 in
theorem lifted (os : Os) (started : os.Started) (H : Type) (enc : TypeId × Value → H) :
    ReturnsInHanded {} Tryz.checked os 5 .any (fun w args => (Rows.aggRightSpec.pre enc Tryz.prog Tryz.f5 [] false w args ∧ laidMetH Tryz.prog laid3 w) ∧ sizedMet enc Tryz.prog Tryz.f5 (OpenSpec.ofChange Rows.aggRightSpec) false w args)
      (Rows.aggRightSpec.post enc Tryz.prog Tryz.f5 false true false false) := by
  refine returnsInHanded_of_change_and (C := Tryz.checked) (X := fun w _ => laidMetH Tryz.prog laid3 w) (fun _ _ _ hh h => h.of_heap hh) own2 started (by kernel_rfl) Tryz.func5
    (ChangeSpec.witness_shaped (enc := enc) (C := Tryz.checked) (os := os) (X := fun w _ => laidMetH Tryz.prog laid3 w) false (World.doorLaid Tryz.prog 800 os) #[.agg #[.slice none 0 0, .slice none 0 0, .slice none 0 0, .slice none 0 0], .int .u32 0, .agg #[.int .u64 0, .int .i64 0, .slice none 0 0, .slice none 0 0, .int .u64 0, .int .i64 0, .slice none 0 0, .slice none 0 0]] 8 rfl (World.shaped_of_RefB (by kernel_rfl) (by kernel_rfl)) (by kernel_rfl) (by kernel_rfl) (by kernel_rfl) (door_met3 os _)) ?_
  intro W base args ds gs before hval0 hW _ _ hL _
  have hTab := tab_of3 hL
  have hTab64 := tab64_of3 hL
  have hval : ∀ (j : Nat) t v, Tryz.f5.params[j]? = some t → args[j]? = some v → Value.okWide Tryz.prog W .any base t v := hval0
  have hW' := hW
  obtain ⟨p, q, hA0, hV, rfl, hfz, hnd⟩ := hW
  have hA : DataW.TrodAll enc Tryz.prog W 0 (fun _ => true) true Tryz.f5.params.toList args.toList ds p := hA0
  rw [Tryz.params5] at hA hval
  obtain ⟨v0, vs0, d0, ds0, p0, q0, hargs, rfl, rfl, h0, r0⟩ := trodAll_cons hA
  obtain ⟨v1, vs1, d1, ds1, p1, q1, rfl, rfl, rfl, h1, r1⟩ := trodAll_cons r0
  obtain ⟨v2, vs2, d2, ds2, p2, q2, rfl, rfl, rfl, h2, r2⟩ := trodAll_cons r1
  obtain ⟨rfl, rfl, rfl⟩ := trodAll_nil r2
  obtain rfl : args = #[v0, v1, v2] := by cases args; simp_all
  obtain ⟨rfl, rfl⟩ := trodVars_none hV
  have k0 := h0
  have lt0 : ∀ x ∈ p0, x.block < W.heap.size := by obtain ⟨m, hm⟩ := k0; exact DataW.trod_lt m _ _ _ hm
  obtain ⟨D0, I0, N0, V0, S0, rfl, s0, w0⟩ := schema_of (hval 0 26 v0 rfl rfl) h0
  obtain ⟨a1, rfl, rfl, rfl, w1⟩ := open_int Tryz.underlying27 (hval 1 27 v1 rfl rfl) h1
  have k2 := h2
  have lt2 : ∀ x ∈ p2, x.block < W.heap.size := by obtain ⟨m, hm⟩ := k2; exact DataW.trod_lt m _ _ _ hm
  obtain ⟨I2, N2, c2, J2, M2, e2, rfl, s2, w2, s'2, w'2⟩ := cells2_of (hval 2 57 v2 rfl rfl) h2
  clear hA0 hval0
  refine (walk D0 I0 N0 V0 S0 a1 I2 N2 c2 J2 M2 e2 W s0 w0 (bounds_u32 w1) s2 w2 s'2 w'2 hTab hTab64).mono fun e W' ⟨he, bel⟩ => ?_
  subst he
  exact ⟨_, rfl, _, _, _, [], _, [], hW', trodAll_mk1 (shut_bool Tryz.underlying4 _), (trodAll_cons_mk (Below.trod laidOut2 (by kernel_rfl) (of_decide_eq_true (by kernel_rfl)) k0 bel lt0) (trodAll_cons_mk (shut_int Tryz.underlying27 w1) (trodAll_cons_mk (Below.trod laidOut2 (by kernel_rfl) (of_decide_eq_true (by kernel_rfl)) k2 bel lt2) trodAll_mk0))), rfl, bel.frame _, fun h => by cases h⟩

theorem over : Rows.aggRightRow.holds Tryz.pinned (OpenSpec.ofChange Rows.aggRightSpec) :=
  OpenClaim.holds_of_wide 5 Tryz.f5 rfl rfl rfl rfl rfl rfl rfl ⟨rfl, rfl, rfl, rfl, rfl⟩ rfl rfl rfl rfl rfl (by kernel_rfl) Tryz.func5 (by kernel_rfl)
    (of_decide_eq_true (by kernel_rfl)) (by unfold Func.isWrapper; first | (rw [if_pos (by decide +kernel)]; kernel_rfl) | (rw [if_neg (by decide +kernel)]; exact ⟨rfl, rfl⟩))
    (fun os started H enc _ => lifted os started H enc)
theorem row_holds : Rows.AggRightSaid := over
end Go.Proofs.YtigikgphipebiaaGreatDoor.aggRight
namespace Go.Proofs.YtigikgphipebiaaGreatDoor
/-- The statement: the tied card. -/
theorem aggRight_holds : Rows.AggRightCardSaid :=
  Claim7.holds_tied_plain_at .later [] [.data, .data] true _ false
    aggRight.row_holds (fun _ h => by cases h) (by kernel_rfl) (fun _ h => by cases h) aggRight_row_tie rfl ⟨rfl, rfl⟩ (by kernel_rfl) rfl
    (fun f fn hf hfn => by
      obtain rfl : f = 5 := Option.some.inj ((show Tryz.prog.funcNamed "bushel/bushellaw14.AggRight" = some 5 by kernel_rfl).symm.trans hf) |>.symm
      obtain rfl : fn = Tryz.f5 := (Option.some.inj (Tryz.func5.symm.trans hfn)).symm
      exact ⟨by kernel_rfl, fun j t ht => by
        rw [Tryz.params5] at ht
        have hm : t ∈ [26, 27, 57] := by simpa using Array.mem_of_getElem? ht
        have hall : ([26, 27, 57].all fun u => !Tryz.prog.wantsStandIn u) = true := by kernel_rfl
        exact (show Tryz.prog.wantsStandIn t = false by simpa using List.all_eq_true.1 hall t hm)⟩)
    (by kernel_rfl)
#print axioms aggRight_holds
end Go.Proofs.YtigikgphipebiaaGreatDoor

