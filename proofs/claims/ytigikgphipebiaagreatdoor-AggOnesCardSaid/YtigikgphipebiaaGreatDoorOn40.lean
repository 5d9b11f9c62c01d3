/- Contracts that the law leans on, pruned and merged: Aggv. -/
import Derived.Test.YtigikgphipebiaaGreatDoorOn03
import Derived.Test.YtigikgphipebiaaGreatDoorOn27
import Derived.Test.YtigikgphipebiaaGreatDoorOn28
import Derived.Test.YtigikgphipebiaaGreatDoorOn37
import Derived.Test.YtigikgphipebiaaGreatDoorOn39
/- Layer 14: the reference's One. -/
namespace Go.Proofs.YtigikgphipebiaaGreatDoor
set_option maxRecDepth 100000
open Go.RowKit
set_option linter.unusedVariables false
theorem flts_one (w : World) (x : Nat) (hx : W64 x) : Flts (w.alloc (.cells #[.float .f64 x] 59)) (.slice (some ⟨w.heap.size, 0, none⟩) 1 1) [x] := by
  refine ⟨⟨_, _, rfl, by simp, .inr ⟨w.heap.size, 0, rfl, by simp, fun i hi => ?_⟩⟩, fun i => ?_⟩
  · have : i = 0 := by simp at hi; omega
    subst this
    simp [go_sem]
  · match i with
    | 0 => exact hx
    | i + 1 => simp [List.getD]
theorem tot_one (x : Nat) : totF [x] = flagN x ∧ totT [x] = unitsI x := by simp [totF, totT]
set_option maxHeartbeats 16000000 in
theorem rone14_any (w : World) (D I M V C J X : Value) (S : Sc) (m : Int) (f : Fa) (h : Sch4 w D I M V S) (h' : Fact3 w C J X f) (hf : FaWf f) (m0 : 0 ≤ m) (m1 : m ≤ 4294967295) (h0 : oneE S m f = 0) (q0 : checkL S = 0 ∧ fitsL S f = 0 ∧ ofE S m f.cs = 0 ∧ ∀ k, k < f.is.length → f.is.getD k 0 ≠ -9223372036854775808) :
    Calls Tryz.prog 17 #[SchV D I M V, .int .u32 m, FactV C J X] w fun e w' => ∃ c p k q l, e = .returned (.agg #[.int .u64 c.key, .int .i64 c.cnt, .slice p c.is.length k, .slice q c.ns.length l]) ∧ CeM w' (.slice p c.is.length k) (.slice q c.ns.length l) c ∧ OC S m f c ∧ Below w.heap.size w w' := by
  obtain ⟨b1, b2, b3, b4⟩ := boxes_three (w := w) (T := 26) (U := 32) (V := 41) (cs := #[D, I, M, V]) (ds := #[C, J, X]) (es := #[.int .u64 0, .int .i64 0, .slice none 0 0, .slice none 0 0])
  have HB := Lib.hid b4
  have HX := Lib.hid (show Box _ w.heap.size D I M V from b1)
  have HY := Lib.hid b2
  have HZ := Lib.hid b3
  obtain ⟨o1, o2, o3⟩ := of_yes q0.2.2.1
  have HO := Lib.hid (fun w1 (hb : Below w.heap.size w w1) => krof_any w1 D I M V C S m f.cs (h.below hb) (h'.c.below hb) (by have := (sc_few q0.1).1; omega) o2 (sc_few q0.1).2 o3 m0 m1)
  have hK : keyG (dz S.ds) (cz f.cs) (bitG m) S.ds.length = ofL S m f.cs := by unfold ofL; rw [if_pos q0.2.2.1]
  rw [hK] at HO
  have HFi := Lib.hid (fun w1 (hb : Below w.heap.size w w1) => h'.i.below hb)
  have HFn := Lib.hid (fun w1 (hb : Below w.heap.size w w1) => h'.n.below hb)
  have HI6 := Lib.hid (fun k (hk : k < f.is.length) => And.intro (getD_all (P := I64) (d := 0) hf.i hk) (q0.2.2.2 k hk))
  have HN6 := Lib.hid (fun k (hk : k < f.ns.length) => getD_all (P := W64) (d := 0) hf.n hk)
  have HSz := Lib.hid (fit_small (S := S) q0.1 hf q0.2.1)
  have HOC := Lib.hid (fun c k1 k2 k3 k4 k5 k6 => (⟨k1, k2, k3, k4, k5, k6⟩ : OC S m f c))
  obtain ⟨⟨a1, c1, rfl⟩, ⟨a2, c2, rfl⟩, ⟨a3, c3, rfl⟩, a4, c4, rfl⟩ := h.slices
  obtain ⟨⟨p1, d1, rfl⟩, ⟨p2, d2, rfl⟩, p3, d3, rfl⟩ := h'.slices
  generalize ofL S m f.cs = K at *
  clear h h' hf m0 m1 b1 b2 b3 b4 q0 o1 o2 o3 hK h0
  go_enter Tryz.func17, Tryz.ntmps17
  go_upto_region 1 with fail
  generalize ((w.alloc (SchO (.slice a1 S.ds.length c1) (.slice a2 S.is.length c2) (.slice a3 S.ns.length c3) (.slice a4 S.vs.length c4))).alloc (FaO (.slice p1 f.cs.length d1) (.slice p2 f.is.length d2) (.slice p3 f.ns.length d3))).alloc (.cells #[.int .u64 0, .int .i64 0, .slice none 0 0, .slice none 0 0] 41) = W at *
  obtain ⟨x0, x1, x2, x3⟩ := HX.out.reads
  obtain ⟨y0, y1, y2⟩ := row3 HY.out
  have hlt : w.heap.size + 1 + 1 < W.heap.size := (Array.getElem?_eq_some_iff.1 HZ.out).1
  go_wp2_with fail
  refine (HO.out _ HB.out).mono ?_; rintro e w2 ⟨rfl, hb2⟩
  have hb3 := below_one w2 (.cells (boxV K 1 (.slice none 0 0) (.slice none 0 0)) 41)
  have HC0 := Lib.hid (show (w2.alloc (.cells (boxV K 1 (.slice none 0 0) (.slice none 0 0)) 41)).heap[w2.heap.size]? = some (.cells (boxV K 1 (.slice none 0 0) (.slice none 0 0)) 41 (0, 0)) from heap_alloc_new w2 _)
  have HW3 := Lib.hid hb3
  have HB2 := Lib.hid (below_then HB.out hb2)
  have hR2 : w.heap.size + 1 + 1 < w2.heap.size := Nat.lt_of_lt_of_le hlt hb2.size
  have hF2 : w.heap.size + 1 < w2.heap.size := by omega
  have HY2 := Lib.hid ((hb2.block _ (by omega)).trans HY.out)
  have HZ2 := Lib.hid ((hb2.block _ hlt).trans HZ.out)
  clear hb2 hb3 HO x0 x1 x2 x3 y0 y1 y2
  obtain ⟨i0, hi, hz0, hz1, hz2⟩ := info_parts Tryz.infoWhole
  obtain ⟨j0, hj, hy0, hy1, hy2⟩ := info_parts Tryz.infoReal
  have hmi : f.is.length ≤ 9223372036854775807 := by have := HSz.out.2.2.1; omega
  have hmn : f.ns.length ≤ 9223372036854775807 := by have := HSz.out.2.2.2; omega
  go_upto_region 2 with fail
  generalize w2.alloc (.cells (boxV K 1 (.slice none 0 0) (.slice none 0 0)) 41) = W3 at *
  go_wp2_with fail
  go_loopw [8] (fun iv wr => ∃ (k : Nat) (v : Value) (ps : List (Value × Wh)), k ≤ f.is.length ∧ iv = .int .i64 k ∧ Hid (ps.length = k ∧ Below w2.heap.size w2 wr ∧ wr.heap[w2.heap.size]? = some (.cells (boxV K 1 v (.slice none 0 0)) 41 (0, 0)) ∧ WsOwn wr w2.heap.size v ps ∧ ∀ j, j < k → OW (f.is.getD j 0) (wg (ps.map Prod.snd) j))) (fun iv _ => f.is.length - (intOf iv).toNat)
  case atStart => exact ⟨0, _, [], Nat.zero_le _, rfl, Lib.hid ⟨rfl, HW3.out, HC0.out, WsOwn.nil _ _, fun j hj => by omega⟩⟩
  case round =>
    obtain ⟨k, v, ps, hk, rfl, HS⟩ := hrel
    obtain ⟨pv, cv, rfl⟩ := own_any14 HS.out.2.2.2.1.1
    have HBw := Lib.hid (HB2.out.trans (HS.out.2.1.mono HB2.out.size))
    obtain ⟨-, y1, y2⟩ := row3 ((HS.out.2.1.block _ hF2).trans HY2.out)
    by_cases hlk : k < f.is.length
    · have hlk' : (k : Int) < (f.is.length : Int) := by omega
      have hle : Hid (k + 1 ≤ f.is.length) := Lib.hid (by omega)
      obtain ⟨b, off, rfl, -, g0⟩ := int_at (HFi.out _ HBw.out) hlk
      obtain ⟨hx64, hxm⟩ := HI6.out k hlk
      obtain ⟨x, hx⟩ : ∃ x, f.is.getD k 0 = x := ⟨_, rfl⟩
      have HXk := Lib.hid hx
      rw [hx] at g0 hx64 hxm
      clear hx
      have HOf := Lib.hid (fun w1 => of_any x w1 hx64.1 hx64.2)
      have zs : Sized 8 x := sized8 (by have := hx64.1; omega) (by have := hx64.2; omega)
      have HMu := Lib.hid (fun w1 u (hu : IsNum w1 u x) => num_mul u u x x 8 w1 hu hu zs zs (by decide))
      have hxx : 0 ≤ x * x ∧ Sized 1000 (x * x) := by
        have e1 : x * x = (x.natAbs : Int) * (x.natAbs : Int) := (Int.natAbs_mul_self' x).symm
        have e2 : (x.natAbs : Int) ≤ 9223372036854775808 := by have := hx64.1; have := hx64.2; omega
        have e3 : (x.natAbs : Int) * (x.natAbs : Int) ≤ 9223372036854775808 * 9223372036854775808 := Int.mul_le_mul e2 e2 (by omega) (by decide)
        have e4 : (0 : Int) ≤ (x.natAbs : Int) * (x.natAbs : Int) := Int.mul_nonneg (by omega) (by omega)
        rw [e1]
        have e5 : (9223372036854775808 : Int) * 9223372036854775808 < 1000 ^ 120 := by decide
        have e6 : (0 : Int) < 1000 ^ 120 := by decide
        refine ⟨e4, Sized.mono (m := 120) ⟨?_, ?_⟩ (by decide)⟩
        · generalize (x.natAbs : Int) * (x.natAbs : Int) = y at *; omega
        · generalize (x.natAbs : Int) * (x.natAbs : Int) = y at *; omega
      have HRo := Lib.hid (fun w1 u (hu : IsNum w1 u (x * x)) => rof_own u (x * x) w1 hu hxx.1 hxx.2)
      have i1 : IntKind.i64.wrap (-x) = -x := IntWalk.i64_in _ (by have := hx64.1; have := hx64.2; omega)
      have i1' : wrap64 (-x) = -x := wrap64_in (by have := hx64.2; omega) (by have := hx64.1; omega)
      have HAb := Lib.hid (show max x (-x) = (x.natAbs : Int) by omega)
      have HPs := Lib.hid HS.out.1
      unfold MadeNum at HOf HMu
      unfold Fresh at HRo
      clear hx64 hxm zs hxx
      go_wp2_with fail
      refine (HOf.out _).mono ?_; rintro e w4 ⟨u, rfl, hu, hb4⟩
      obtain ⟨ub, up, ul, uc, rfl⟩ := hu.shape
      have hb5 := below_then hb4 (below_one w4 (.cells #[.bool ub, .slice up ul uc] 89))
      have HT5 := Lib.hid hb5
      have HU5 := Lib.hid (hu.below (below_one w4 (.cells #[.bool ub, .slice up ul uc] 89)))
      have n0 : (w4.alloc (.cells #[.bool ub, .slice up ul uc] 89)).cell? ⟨w4.heap.size, 0, none⟩ = some (.bool ub) := by simp [go_sem]
      have n1 : (w4.alloc (.cells #[.bool ub, .slice up ul uc] 89)).cell? ⟨w4.heap.size, 1, none⟩ = some (.slice up ul uc) := by simp [go_sem]
      have HCb := Lib.hid ((hb5.block _ (Array.getElem?_eq_some_iff.1 HS.out.2.2.1).1).trans HS.out.2.2.1)
      have c2' := (box_reads HCb.out).1.2.2.1
      have HWs := Lib.hid (HS.out.2.2.2.1.below hb5)
      have HB5 := Lib.hid (HS.out.2.1.trans (hb5.mono HS.out.2.1.size))
      have HJl := Lib.hid HS.out.2.2.2.2
      have HVl := Lib.hid (fun g hg => (World.ownsRow.lt HS.out.2.2.2.1.1 g hg).2)
      have hMr : wr.heap.size ≤ w4.heap.size := hb4.size
      clear hb4 hb5 hu g0 y1 y2 HS HOf
      go_upto_region 7 with fail
      generalize w4.alloc (.cells #[.bool ub, .slice up ul uc] 89) = w5 at *
      generalize w4.heap.size = MM at *
      have hk0 : w5.cell? ⟨w2.heap.size, 2, none⟩ = some (.slice pv ps.length cv) ∧ w5.cell? ⟨MM, 0, none⟩ = some (.bool ub) ∧ w5.cell? ⟨MM, 1, none⟩ = some (.slice up ul uc) := ⟨c2', n0, n1⟩
      have hk : w5.drew.cell? ⟨w2.heap.size, 2, none⟩ = some (.slice pv ps.length cv) ∧ w5.drew.cell? ⟨MM, 0, none⟩ = some (.bool ub) ∧ w5.drew.cell? ⟨MM, 1, none⟩ = some (.slice up ul uc) := hk0
      have hC5 : w2.heap.size < w5.heap.size := (Array.getElem?_eq_some_iff.1 HCb.out).1
      have hM5 : MM < w5.heap.size := World.block_lt_of_cell? _ _ n0
      clear c2' n0 n1
      refine wp_region_z (S := fun w' => w'.cell? ⟨w2.heap.size, 2, none⟩ = some (.slice pv ps.length cv) ∧ w'.cell? ⟨MM, 0, none⟩ = some (.bool ub) ∧ w'.cell? ⟨MM, 1, none⟩ = some (.slice up ul uc)) 17 (by kernel_rfl) hk (fun _ => ?_)
      refine wpZ_take (i := 0) (oi := { dst := some 33, op := _, type := _, pos := _, after := _, guard := _ }) (v := .pointer (some ⟨w2.heap.size, 2, none⟩)) rfl (by kernel_rfl) (by kernel_rfl) (by kernel_rfl) (by kernel_rfl) (fun _ _ _ h => h) (Or.inl ⟨by kernel_rfl, fun w hSw => by (try dsimp only at hSw); first | (go_simp; done) | (go_simp; rfl)⟩) hk ?_
      try simp only [Act.put, List.setIfInBounds_toArray, List.set_cons_zero, List.set_cons_succ]
      refine wpZ_take (i := 1) (oi := { dst := some 34, op := _, type := _, pos := _, after := _, guard := _ }) (v := .slice pv ps.length cv) rfl (by kernel_rfl) (by kernel_rfl) (by kernel_rfl) (by kernel_rfl) (fun _ _ _ h => h) (Or.inl ⟨by kernel_rfl, fun w hSw => by (try dsimp only at hSw); first | (go_simp; done) | (go_simp; rfl)⟩) hk ?_
      try simp only [Act.put, List.setIfInBounds_toArray, List.set_cons_zero, List.set_cons_succ]
      refine wpZ_take (i := 2) (oi := { dst := some 35, op := _, type := _, pos := _, after := _, guard := _ }) (v := .int .i64 x) rfl (by kernel_rfl) (by kernel_rfl) (by kernel_rfl) (by kernel_rfl) (fun _ _ _ h => h) (Or.inl ⟨by kernel_rfl, fun w hSw => by (try dsimp only at hSw); first | (go_simp; done) | (go_simp; rfl)⟩) hk ?_
      try simp only [Act.put, List.setIfInBounds_toArray, List.set_cons_zero, List.set_cons_succ]
      refine wpZ_take (i := 3) (oi := { dst := some 36, op := _, type := _, pos := _, after := _, guard := _ }) (v := .int .i64 x) rfl (by kernel_rfl) (by kernel_rfl) (by kernel_rfl) (by kernel_rfl) (fun _ _ _ h => h) (Or.inl ⟨by kernel_rfl, fun w hSw => by (try dsimp only at hSw); first | (go_simp; done) | (go_simp; rfl)⟩) hk ?_
      try simp only [Act.put, List.setIfInBounds_toArray, List.set_cons_zero, List.set_cons_succ]
      refine wpZ_take (i := 4) (oi := { dst := some 37, op := _, type := _, pos := _, after := _, guard := _ }) (v := .int .i64 x) rfl (by kernel_rfl) (by kernel_rfl) (by kernel_rfl) (by kernel_rfl) (fun _ _ _ h => h) (Or.inl ⟨by kernel_rfl, fun w hSw => by (try dsimp only at hSw); first | (go_simp; done) | (go_simp; rfl)⟩) hk ?_
      try simp only [Act.put, List.setIfInBounds_toArray, List.set_cons_zero, List.set_cons_succ]
      refine wpZ_take (i := 5) (oi := { dst := some 38, op := _, type := _, pos := _, after := _, guard := _ }) (v := .int .i64 (-x)) rfl (by kernel_rfl) (by kernel_rfl) (by kernel_rfl) (by kernel_rfl) (fun _ _ _ h => h) (Or.inl ⟨by kernel_rfl, fun w hSw => by (try dsimp only at hSw); first | (go_simp; done) | (go_simp; rfl)⟩) hk ?_
      try simp only [Act.put, List.setIfInBounds_toArray, List.set_cons_zero, List.set_cons_succ]
      refine wpZ_take (i := 6) (oi := { dst := some 39, op := _, type := _, pos := _, after := _, guard := _ }) (v := .int .i64 (max x (-x))) rfl (by kernel_rfl) (by kernel_rfl) (by kernel_rfl) (by kernel_rfl) (fun _ _ _ h => h) (Or.inl ⟨by kernel_rfl, fun w hSw => by (try dsimp only at hSw); first | (go_simp; done) | (go_simp; rfl)⟩) hk ?_
      try simp only [Act.put, List.setIfInBounds_toArray, List.set_cons_zero, List.set_cons_succ]
      refine wpZ_take (i := 7) (oi := { dst := some 40, op := _, type := _, pos := _, after := _, guard := _ }) (v := .agg #[.bool ub, .slice up ul uc]) rfl (by kernel_rfl) (by kernel_rfl) (by kernel_rfl) (by kernel_rfl) (fun _ _ _ h => h) (Or.inl ⟨by kernel_rfl, fun w hSw => by (try dsimp only at hSw); first | (go_simp; done) | (go_simp; rfl)⟩) hk ?_
      try simp only [Act.put, List.setIfInBounds_toArray, List.set_cons_zero, List.set_cons_succ]
      refine wpZ_take (i := 8) (oi := { dst := some 41, op := _, type := _, pos := _, after := _, guard := _ }) (v := .agg #[.bool ub, .slice up ul uc]) rfl (by kernel_rfl) (by kernel_rfl) (by kernel_rfl) (by kernel_rfl) (fun _ _ _ h => h) (Or.inl ⟨by kernel_rfl, fun w hSw => by (try dsimp only at hSw); first | (go_simp; done) | (go_simp; rfl)⟩) hk ?_
      try simp only [Act.put, List.setIfInBounds_toArray, List.set_cons_zero, List.set_cons_succ]
      refine wpZ_take (i := 11) (oi := { dst := some 44, op := _, type := _, pos := _, after := _, guard := _ }) (v := .int .i64 x) rfl (by kernel_rfl) (by kernel_rfl) (by kernel_rfl) (by kernel_rfl) (fun _ _ _ h => h) (Or.inl ⟨by kernel_rfl, fun w hSw => by (try dsimp only at hSw); first | (go_simp; done) | (go_simp; rfl)⟩) hk ?_
      try simp only [Act.put, List.setIfInBounds_toArray, List.set_cons_zero, List.set_cons_succ]
      refine wpZ_take (i := 12) (oi := { dst := some 45, op := _, type := _, pos := _, after := _, guard := _ }) (v := .int .i64 x) rfl (by kernel_rfl) (by kernel_rfl) (by kernel_rfl) (by kernel_rfl) (fun _ _ _ h => h) (Or.inl ⟨by kernel_rfl, fun w hSw => by (try dsimp only at hSw); first | (go_simp; done) | (go_simp; rfl)⟩) hk ?_
      try simp only [Act.put, List.setIfInBounds_toArray, List.set_cons_zero, List.set_cons_succ]
      refine wpZ_one (i := 9) (by kernel_rfl) rfl (fun K' hK => ?_)
      rw [if_pos (by kernel_rfl)]
      go_simp
      go_at_call 44
      refine (HMu.out _ _ (HU5.out.below (Below.refl _ _).drew)).mono ?_
      rintro r w6 ⟨v6, rfl, hv6, hb6⟩
      have hb6' := from_drew hb6
      replace hk := And.intro (cell_later hb6' hk0.1) (And.intro (cell_later hb6' hk0.2.1) (cell_later hb6' hk0.2.2))
      have HV6 := Lib.hid hv6
      obtain ⟨vb, vp, vl, vc, rfl⟩ := hv6.shape
      clear hb6 hv6
      refine hK.out _ _ hk ?_
      try simp only [Act.put, List.setIfInBounds_toArray, List.set_cons_zero, List.set_cons_succ]
      clear hK
      refine wpZ_one (i := 10) (by kernel_rfl) rfl (fun K' hK => ?_)
      rw [if_pos (by kernel_rfl)]
      go_simp
      go_at_call 43
      refine (HRo.out _ _ HV6.out).mono ?_
      rintro r w7 ⟨v7, lz, rfl, g1, g2, g3, g4, g5, hb7⟩
      have hb7' := below_then hb6' hb7
      replace hk := And.intro (cell_later hb7 hk.1) (And.intro (cell_later hb7 hk.2.1) (cell_later hb7 hk.2.2))
      have HO7 := Lib.hid (own_low14 g1 (B' := w2.heap.size) (Nat.le_trans (Nat.le_of_lt hC5) hb6'.size))
      have HG7 := Lib.hid (And.intro g2 (And.intro g3 g4))
      obtain ⟨pq, cq, rfl⟩ := own_any14 g1
      clear g1 g2 g3 g4 g5 hb7 hb6'
      refine hK.out _ _ hk ?_
      try simp only [Act.put, List.setIfInBounds_toArray, List.set_cons_zero, List.set_cons_succ]
      clear hK
      refine wpZ_take (i := 13) (oi := { dst := some 46, op := _, type := _, pos := _, after := _, guard := _ }) (v := .agg #[.int .i64 x, .int .i64 (max x (-x)), .slice pq lz.length cq, .int .i64 x, .int .i64 x]) rfl (by kernel_rfl) (by kernel_rfl) (by kernel_rfl) (by kernel_rfl) (fun _ _ _ h => h) (Or.inl ⟨by kernel_rfl, fun w hSw => by (try dsimp only at hSw); first | (go_simp; done) | (go_simp; rfl)⟩) hk ?_
      try simp only [Act.put, List.setIfInBounds_toArray, List.set_cons_zero, List.set_cons_succ]
      refine wpZ_one (i := 14) (by kernel_rfl) rfl (fun K' hK => ?_)
      rw [if_pos (by kernel_rfl)]
      go_simp
      have hb8 := below_one w7 (.cells #[.int .i64 x, .int .i64 (max x (-x)), .slice pq lz.length cq, .int .i64 x, .int .i64 x] 75)
      have hbE := below_then hb7' hb8
      replace hk := And.intro (cell_later hb8 hk.1) (And.intro (cell_later hb8 hk.2.1) (cell_later hb8 hk.2.2))
      refine hK.out _ _ hk ?_
      try simp only [Act.put, List.setIfInBounds_toArray, List.set_cons_zero, List.set_cons_succ]
      clear hK
      refine wpZ_one (i := 15) (by kernel_rfl) rfl (fun K' hK => ?_)
      refine append_own_step14 _ (by rfl) _ _ _ (by rfl) w2.heap.size 75 i0 (.agg #[.int .i64 0, .int .i64 0, .slice none 0 0, .int .i64 0, .int .i64 0]) 5 56 Tryz.underlying38 hi hz0 hz1 hz2 zcells_whole (by decide) _ ps.length (cellsW ps) (by rfl) (own_keep HWs.out.1 hbE) ⟨w7.heap.size, 0, none⟩ 1 1 [.int .i64 x, .int .i64 (max x (-x)), .slice pq lz.length cq, .int .i64 x, .int .i64 x] (by rfl) (by rfl) (World.news_of_block (heap_alloc_new w7 _)) (by intro u hu; simp at hu; rcases hu with rfl | rfl | rfl | rfl | rfl <;> rfl) (by have := HPs.out; have := HSz.out.2.2.1; unfold maxLen; omega) (by have := HPs.out; have := HSz.out.2.2.1; omega) (by have h1 := hbE.size; omega) ?_
      intro v' w9 hown hgrow
      have hWE := HWs.out.below hbE
      have HW9 := Lib.hid (WsOwn.push (x := ⟨x, max x (-x), lz, x, x⟩) hWE (own_keep HO7.out hb8) hown hgrow)
      have HC9 := Lib.hid (box_stay ((hbE.block _ hC5).trans HCb.out) hWE.1 (by decide) hgrow)
      have HB9 := Lib.hid (Below.grown (HB5.out.trans (hbE.mono HB5.out.size)) hgrow (by have h1 := hbE.size; omega) (fun gg hg => (World.ownsRow.lt HWs.out.1 gg hg).1))
      obtain ⟨⟨s0, s1, s2, s3⟩, sf⟩ := box_reads HC9.out
      replace hk := And.intro s2 (And.intro (cell_grown14 hgrow HVl.out hMr hk.2.1) (cell_grown14 hgrow HVl.out hMr hk.2.2))
      clear hWE hbE hb8 hb7'
      obtain ⟨pv', cv', rfl⟩ := own_any14 hown
      clear hown hgrow
      refine hK.out _ _ hk ?_
      try simp only [Act.put, List.setIfInBounds_toArray]
      clear hK
      refine wpZ_take (i := 16) (oi := { dst := some 49, op := _, type := _, pos := _, after := _, guard := _ }) (v := .pointer (some ⟨w2.heap.size, 2, none⟩)) rfl (by kernel_rfl) (by kernel_rfl) (by kernel_rfl) (by kernel_rfl) (fun _ _ _ h => h) (Or.inl ⟨by kernel_rfl, fun w hSw => by (try dsimp only at hSw); first | (go_simp; done) | (go_simp; rfl)⟩) hk ?_
      try simp only [Act.put]
      refine wpZ_last (by kernel_rfl) rfl (fun K' hK => ?_)
      rw [if_pos (by kernel_rfl)]
      go_simp
      refine hK.out _ _ ?_
      try simp only [Act.put, List.setIfInBounds_toArray, List.set_cons_zero, List.set_cons_succ]
      clear hK
      refine wpZ_done (by kernel_rfl) ?_ _
      have HC12 := Lib.hid (box_set2 (u := .slice pv' (ps.length + 1) cv') HC9.out)
      have HW12 := Lib.hid (HW9.out.setbox (j := 2) (u := .slice pv' (ps.length + 1) cv') HC9.out (by decide) (by decide))
      have HB12 := Lib.hid (HB9.out.setCell (p := ⟨w2.heap.size, 2, none⟩) (Nat.le_refl _) (.slice pv' (ps.length + 1) cv'))
      generalize w9.setCell ⟨w2.heap.size, 2, none⟩ (.slice pv' (ps.length + 1) cv') = w12 at *
      clear hk s0 s1 s2 s3 sf hk0
      go_wp2_with fail
      go_roundw
      case rel => exact ⟨k + 1, _, ps ++ [(.slice pq lz.length cq, ⟨x, max x (-x), lz, x, x⟩)], hle.out, by go_num, Lib.hid ⟨by simp [HPs.out], HB12.out, HC12.out, HW12.out, fun j hj => snoc_wh HPs.out hj (fun e => HJl.out j e) (fun e => by subst e; rw [HXk.out]; exact ⟨rfl, HAb.out, HG7.out.1, HG7.out.2.1, HG7.out.2.2, rfl, rfl⟩)⟩⟩
      case measure => simp [intOf]; omega
    · have : k = f.is.length := by omega
      subst this
      have HJW := Lib.hid HS.out.2.2.2.2
      have HPs := Lib.hid HS.out.1
      have HV0 := Lib.hid (And.intro HS.out.2.1 (And.intro HS.out.2.2.1 HS.out.2.2.2.1))
      clear HS hlk hk HBw
      generalize wr = wz at *
      go_wp2_with fail
      clear y1 y2
      go_loopw [11] (fun iv wr => ∃ (k : Nat) (v2 : Value) (rs : List (Value × Re)), k ≤ f.ns.length ∧ iv = .int .i64 k ∧ Hid (rs.length = k ∧ Below w2.heap.size w2 wr ∧ wr.heap[w2.heap.size]? = some (.cells (boxV K 1 (.slice pv ps.length cv) v2) 41 (0, 0)) ∧ WsOwn wr w2.heap.size (.slice pv ps.length cv) ps ∧ RsOwn wr w2.heap.size v2 rs ∧ ∀ j, j < k → OR (f.ns.getD j 0) (rg (rs.map Prod.snd) j))) (fun iv _ => f.ns.length - (intOf iv).toNat)
      case atStart => exact ⟨0, _, [], Nat.zero_le _, rfl, Lib.hid ⟨rfl, HV0.out.1, HV0.out.2.1, HV0.out.2.2, RsOwn.nil _ _, fun j hj => by omega⟩⟩
      case round =>
        obtain ⟨k, v2, rs, hk, rfl, HS⟩ := hrel
        obtain ⟨pv2, cv2, rfl⟩ := own_any14 HS.out.2.2.2.2.1.1
        have HBw := Lib.hid (HB2.out.trans (HS.out.2.1.mono HB2.out.size))
        obtain ⟨-, y1, y2⟩ := row3 ((HS.out.2.1.block _ hF2).trans HY2.out)
        by_cases hlk : k < f.ns.length
        · have hlk' : (k : Int) < (f.ns.length : Int) := by omega
          have hle : Hid (k + 1 ≤ f.ns.length) := Lib.hid (by omega)
          obtain ⟨b, off, rfl, -, g0⟩ := fl_at (HFn.out _ HBw.out) hlk
          have hx64 := HN6.out k hlk
          obtain ⟨x, hx⟩ : ∃ x, f.ns.getD k 0 = x := ⟨_, rfl⟩
          have HXk := Lib.hid hx
          rw [hx] at g0 hx64
          have HFo := Lib.hid (fun w1 => flts_one w1 x hx64)
          have HOf := Lib.hid (fun w1 v hv => rsof_any v [x] w1 hv (by simp))
          have hfit : Fits (unitsI x) := (fewer_one x hx64).fits (by decide)
          have hk0 := (box_reads HS.out.2.2.1).1.2.2.2
          have HCl := Lib.hid (Array.getElem?_eq_some_iff.1 HS.out.2.2.1).1
          have HRl := Lib.hid HS.out.1
          unfold ROfP at HOf
          rw [(tot_one x).1, (tot_one x).2] at HOf
          obtain ⟨lz, hlz⟩ := enc_ex (f := flagN x) hfit
          have HBy := Lib.hid (fun w1 v (hv : SumV w1 v (flagN x) (unitsI x)) => rsbytes_any w1 v (flagN x) (unitsI x) lz hv hlz)
          have HEl := Lib.hid hlz
          unfold BytesP5 at HBy
          clear hx hx64 hfit hlz
          go_upto_region 12 with fail
          have hk : wr.drew.cell? ⟨w2.heap.size, 3, none⟩ = some (.slice pv2 rs.length cv2) := hk0
          clear g0 y1 y2
          refine wp_region_z (S := fun w' => w'.cell? ⟨w2.heap.size, 3, none⟩ = some (.slice pv2 rs.length cv2)) 12 (by kernel_rfl) hk (fun _ => ?_)
          refine wpZ_take (i := 0) (oi := { dst := some 62, op := _, type := _, pos := _, after := _, guard := _ }) (v := .pointer (some ⟨w2.heap.size, 3, none⟩)) rfl (by kernel_rfl) (by kernel_rfl) (by kernel_rfl) (by kernel_rfl) (fun _ _ _ h => h) (Or.inl ⟨by kernel_rfl, fun w hSw => by (try dsimp only at hSw); first | (go_simp; done) | (go_simp; rfl)⟩) hk ?_
          try simp only [Act.put, List.setIfInBounds_toArray, List.set_cons_zero, List.set_cons_succ]
          refine wpZ_take (i := 1) (oi := { dst := some 63, op := _, type := _, pos := _, after := _, guard := _ }) (v := .slice pv2 rs.length cv2) rfl (by kernel_rfl) (by kernel_rfl) (by kernel_rfl) (by kernel_rfl) (fun _ _ _ h => h) (Or.inl ⟨by kernel_rfl, fun w hSw => by (try dsimp only at hSw); first | (go_simp; done) | (go_simp; rfl)⟩) hk ?_
          try simp only [Act.put, List.setIfInBounds_toArray, List.set_cons_zero, List.set_cons_succ]
          refine wpZ_take (i := 2) (oi := { dst := some 64, op := _, type := _, pos := _, after := _, guard := _ }) (v := .float .f64 x) rfl (by kernel_rfl) (by kernel_rfl) (by kernel_rfl) (by kernel_rfl) (fun _ _ _ h => h) (Or.inl ⟨by kernel_rfl, fun w hSw => by (try dsimp only at hSw); first | (go_simp; done) | (go_simp; rfl)⟩) hk ?_
          try simp only [Act.put, List.setIfInBounds_toArray, List.set_cons_zero, List.set_cons_succ]
          refine wpZ_take (i := 6) (oi := { dst := some 68, op := _, type := _, pos := _, after := _, guard := _ }) (v := .float .f64 x) rfl (by kernel_rfl) (by kernel_rfl) (by kernel_rfl) (by kernel_rfl) (fun _ _ _ h => h) (Or.inl ⟨by kernel_rfl, fun w hSw => by (try dsimp only at hSw); first | (go_simp; done) | (go_simp; rfl)⟩) hk ?_
          try simp only [Act.put, List.setIfInBounds_toArray, List.set_cons_zero, List.set_cons_succ]
          refine wpZ_take (i := 7) (oi := { dst := some 69, op := _, type := _, pos := _, after := _, guard := _ }) (v := .float .f64 x) rfl (by kernel_rfl) (by kernel_rfl) (by kernel_rfl) (by kernel_rfl) (fun _ _ _ h => h) (Or.inl ⟨by kernel_rfl, fun w hSw => by (try dsimp only at hSw); first | (go_simp; done) | (go_simp; rfl)⟩) hk ?_
          try simp only [Act.put, List.setIfInBounds_toArray, List.set_cons_zero, List.set_cons_succ]
          refine wpZ_one (i := 3) (by kernel_rfl) rfl (fun K' hK => ?_)
          rw [if_pos (by kernel_rfl)]
          go_simp
          have hb3 : Below wr.heap.size wr (wr.drew.alloc (.cells #[.float .f64 x] 59)) := from_drew (below_one wr.drew (.cells #[.float .f64 x] 59))
          have HF3 := Lib.hid (HFo.out wr.drew)
          replace hk := cell_later hb3 hk0
          refine hK.out _ _ hk ?_
          try simp only [Act.put, List.setIfInBounds_toArray, List.set_cons_zero, List.set_cons_succ]
          clear hK
          refine wpZ_one (i := 4) (by kernel_rfl) rfl (fun K' hK => ?_)
          rw [if_pos (by kernel_rfl)]
          go_simp
          go_at_call 46
          refine (HOf.out _ _ HF3.out).mono ?_
          rintro r w5 ⟨⟨v5, rfl, hv5⟩, hb5⟩
          have hb5' := below_then hb3 hb5
          replace hk := cell_later hb5 hk
          have HV5 := Lib.hid hv5
          obtain ⟨nb, vp, vl, vc, rfl⟩ := hv5.shape
          clear hv5 hb3
          refine hK.out _ _ hk ?_
          try simp only [Act.put, List.setIfInBounds_toArray, List.set_cons_zero, List.set_cons_succ]
          clear hK
          refine wpZ_one (i := 5) (by kernel_rfl) rfl (fun K' hK => ?_)
          rw [if_pos (by kernel_rfl)]
          go_simp
          go_at_call 45
          refine (HBy.out _ _ HV5.out).mono ?_
          rintro r w4 ⟨⟨u4, rfl, ho4⟩, hb4⟩
          have hb4' := below_then hb5' hb4
          replace hk := cell_later hb4 hk
          have HO4 := Lib.hid (own_low14 ho4 (B' := w2.heap.size) (Nat.le_trans HS.out.2.1.size hb5'.size))
          obtain ⟨pq, cq, rfl⟩ := own_any14 ho4
          clear ho4 hb4 hb5 hb5' hk0
          refine hK.out _ _ hk ?_
          try simp only [Act.put, List.setIfInBounds_toArray, List.set_cons_zero, List.set_cons_succ]
          clear hK
          refine wpZ_take (i := 8) (oi := { dst := some 70, op := _, type := _, pos := _, after := _, guard := _ }) (v := .agg #[.slice pq lz.length cq, .float .f64 x, .float .f64 x]) rfl (by kernel_rfl) (by kernel_rfl) (by kernel_rfl) (by kernel_rfl) (fun _ _ _ h => h) (Or.inl ⟨by kernel_rfl, fun w hSw => by (try dsimp only at hSw); first | (go_simp; done) | (go_simp; rfl)⟩) hk ?_
          try simp only [Act.put, List.setIfInBounds_toArray, List.set_cons_zero, List.set_cons_succ]
          refine wpZ_one (i := 9) (by kernel_rfl) rfl (fun K' hK => ?_)
          rw [if_pos (by kernel_rfl)]
          go_simp
          have hb6 := below_one w4 (.cells #[.slice pq lz.length cq, .float .f64 x, .float .f64 x] 63)
          have hbE := below_then hb4' hb6
          replace hk := cell_later hb6 hk
          refine hK.out _ _ hk ?_
          try simp only [Act.put, List.setIfInBounds_toArray, List.set_cons_zero, List.set_cons_succ]
          clear hK
          refine wpZ_one (i := 10) (by kernel_rfl) rfl (fun K' hK => ?_)
          refine append_own_step14 _ (by rfl) _ _ _ (by rfl) w2.heap.size 63 j0 (.agg #[.slice none 0 0, .float .f64 0, .float .f64 0]) 3 40 Tryz.underlying39 hj hy0 hy1 hy2 zcells_real (by decide) _ rs.length (cellsR rs) (by rfl) (own_keep HS.out.2.2.2.2.1.1 hbE) ⟨w4.heap.size, 0, none⟩ 1 1 [.slice pq lz.length cq, .float .f64 x, .float .f64 x] (by rfl) (by rfl) (World.news_of_block (heap_alloc_new w4 _)) (by intro u hu; simp at hu; rcases hu with rfl | rfl | rfl <;> rfl) (by have := HRl.out; have := HSz.out.2.2.2; unfold maxLen; omega) (by have := HRl.out; have := HSz.out.2.2.2; omega) (by have h1 := hbE.size; have h2 := HS.out.2.1.size; omega) ?_
          intro v' w9 hown hgrow
          have hRE := HS.out.2.2.2.2.1.below hbE
          have hWE := HS.out.2.2.2.1.below hbE
          have HR9 := Lib.hid (RsOwn.push (x := ⟨lz, x, x⟩) hRE (own_keep HO4.out hb6) hown hgrow)
          have HW9 := Lib.hid (hWE.apart hRE.1 (by decide) (by decide) hgrow)
          have hCE := (hbE.block _ HCl.out).trans HS.out.2.2.1
          have HC9 := Lib.hid (box_stay hCE hRE.1 (by decide) hgrow)
          have HB9 := Lib.hid (Below.grown (HS.out.2.1.trans (hbE.mono HS.out.2.1.size)) hgrow (by have h1 := hbE.size; have h2 := HS.out.2.1.size; omega) (fun gg hg => (World.ownsRow.lt HS.out.2.2.2.2.1.1 gg hg).1))
          obtain ⟨⟨s0, s1, s2, s3⟩, sf⟩ := box_reads HC9.out
          replace hk := s3
          have HJl := Lib.hid HS.out.2.2.2.2.2
          clear hWE hRE hCE hbE hb6 hb4' HS
          obtain ⟨pv', cv', rfl⟩ := own_any14 hown
          clear hown hgrow
          refine hK.out _ _ hk ?_
          try simp only [Act.put, List.setIfInBounds_toArray]
          clear hK
          refine wpZ_take (i := 11) (oi := { dst := some 73, op := _, type := _, pos := _, after := _, guard := _ }) (v := .pointer (some ⟨w2.heap.size, 3, none⟩)) rfl (by kernel_rfl) (by kernel_rfl) (by kernel_rfl) (by kernel_rfl) (fun _ _ _ h => h) (Or.inl ⟨by kernel_rfl, fun w hSw => by (try dsimp only at hSw); first | (go_simp; done) | (go_simp; rfl)⟩) hk ?_
          try simp only [Act.put]
          refine wpZ_last (by kernel_rfl) rfl (fun K' hK => ?_)
          rw [if_pos (by kernel_rfl)]
          go_simp
          refine hK.out _ _ ?_
          try simp only [Act.put, List.setIfInBounds_toArray, List.set_cons_zero, List.set_cons_succ]
          clear hK
          refine wpZ_done (by kernel_rfl) ?_ _
          have HC12 := Lib.hid (box_set3 (u := .slice pv' (rs.length + 1) cv') HC9.out)
          have HW12 := Lib.hid (HW9.out.setbox (j := 3) (u := .slice pv' (rs.length + 1) cv') HC9.out (by decide) (by decide))
          have HR12 := Lib.hid (HR9.out.setbox (j := 3) (u := .slice pv' (rs.length + 1) cv') HC9.out (by decide) (by decide))
          have HB12 := Lib.hid (HB9.out.setCell (p := ⟨w2.heap.size, 3, none⟩) (Nat.le_refl _) (.slice pv' (rs.length + 1) cv'))
          generalize w9.setCell ⟨w2.heap.size, 3, none⟩ (.slice pv' (rs.length + 1) cv') = w12 at *
          clear hk s0 s1 s2 s3 sf
          go_wp2_with fail
          go_roundw
          case rel => exact ⟨k + 1, _, rs ++ [(.slice pq lz.length cq, ⟨lz, x, x⟩)], hle.out, by go_num, Lib.hid ⟨by simp [HRl.out], HB12.out, HC12.out, HW12.out, HR12.out, fun j hj => snoc_re HRl.out hj (fun e => HJl.out j e) (fun e => by subst e; rw [HXk.out]; exact ⟨HEl.out, rfl, rfl⟩)⟩⟩
          case measure => simp [intOf]; omega
        · have : k = f.ns.length := by omega
          subst this
          have hzz := (HS.out.2.1.block _ hR2).trans HZ2.out
          obtain ⟨⟨q0, q1, q2, q3⟩, zf⟩ := box_reads hzz
          obtain ⟨⟨s0, s1, s2, s3⟩, -⟩ := box_reads HS.out.2.2.1
          have hS := set4_box (k' := K) (n' := 1) (I' := .slice pv ps.length cv) (N' := .slice pv2 rs.length cv2) hzz
          have hB := set4_below (R := w.heap.size + 1 + 1) (k' := K) (n' := 1) (I' := .slice pv ps.length cv) (N' := .slice pv2 rs.length cv2) HBw.out (by omega)
          have hW := set4_ws (k' := K) (n' := 1) (I' := .slice pv ps.length cv) (N' := .slice pv2 rs.length cv2) hzz (by decide) (by decide) HS.out.2.2.2.1
          have hR := set4_rs (k' := K) (n' := 1) (I' := .slice pv ps.length cv) (N' := .slice pv2 rs.length cv2) hzz (by decide) (by decide) HS.out.2.2.2.2.1
          unfold set4 at hS hB hW hR
          have HS9 := Lib.hid hS
          have HB9 := Lib.hid hB
          have hli : (ps.map Prod.snd).length = ps.length := by simp
          have hln : (rs.map Prod.snd).length = rs.length := by simp
          have HM9 := Lib.hid (And.intro hW.wholes hR.reals)
          have HF := Lib.hid (HOC.out ⟨K, 1, ps.map Prod.snd, rs.map Prod.snd⟩ rfl rfl (by simp [HPs.out]) (by simp [HS.out.1]) HJW.out HS.out.2.2.2.2.2)
          clear hS hB hW hR hzz HS hk hlk
          go_wp2_with fail
          obtain ⟨⟨r0, r1, r2, r3⟩, -⟩ := box_reads HS9.out
          exact bodyPost_ret (v := CeV ⟨K, 1, ps.map Prod.snd, rs.map Prod.snd⟩ (.slice pv ps.length cv) (.slice pv2 rs.length cv2)) (by simp [results, Tryz.results17, go_sem, r0, r1, r2, r3]) rfl ⟨⟨K, 1, ps.map Prod.snd, rs.map Prod.snd⟩, pv, cv, pv2, cv2, by rw [hli, hln], ⟨by show Wholes _ (.slice pv (ps.map Prod.snd).length cv) _; rw [hli]; exact HM9.out.1, by show Reals _ (.slice pv2 (rs.map Prod.snd).length cv2) _; rw [hln]; exact HM9.out.2⟩, HF.out, HB9.out⟩
end Go.Proofs.YtigikgphipebiaaGreatDoor
