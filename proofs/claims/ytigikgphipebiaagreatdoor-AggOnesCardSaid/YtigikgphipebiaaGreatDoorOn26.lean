/- Contracts that the law leans on, pruned and merged: Exq. -/
import Derived.Test.YtigikgphipebiaaGreatDoorOn25
/- bushelref05: Add of what is no other finite number. -/
namespace Go.Proofs.YtigikgphipebiaaGreatDoor
set_option maxRecDepth 100000
open Go.RowKit
set_option linter.unusedVariables false
theorem rsplit_u (x : Nat) (w : World) (hx : W64 x) (hk : kindI x = 1) : Calls Tryz.prog 169 #[.float .f64 x] w (SplitU (negB x) (unitsI x) w) := by
  obtain ⟨-, -, -, h4, h5⟩ := kind_one hx hk
  obtain ⟨c, q, hc, hq, h0, hr⟩ := canon_of_fin h4 h5
  exact (rsplit_fin x c q w hx hk hc hq h0 hr).mono (split_u hx hk hc hq h0 hr)
theorem two_blocks (w : World) (a b : Obj) : ((w.alloc a).alloc b).heap[w.heap.size]? = some a ∧ ((w.alloc a).alloc b).heap[w.heap.size + 1]? = some b := by
  have h0 := heap_then (heap_alloc_new w a) (below_one _ b)
  have h1 := heap_alloc_new (w.alloc a) b
  exact ⟨h0, by simpa using h1⟩
theorem signed_val (b : Bool) (t : Int) (h : decide (t < 0) = b) : signed b (t.natAbs : Int) = t := by
  cases b
  · have := of_decide_eq_false h; simp [signed]; omega
  · have := of_decide_eq_true h; simp [signed]; omega
theorem bits16 : bitB 16 0 = false ∧ bitB 16 1 = false ∧ bitB 16 2 = false ∧ bitB 16 3 = false ∧ bitB 16 4 = true := by decide
theorem set56 {w : World} {N : Nat} {T : TypeId} {a b c d e f g f' g' : Value} (h : w.heap[N]? = some (.cells #[a, b, c, d, e, f, g] T (0, 0))) :
    ((w.setCell ⟨N, 5, none⟩ f').setCell ⟨N, 6, none⟩ g').heap[N]? = some (.cells #[a, b, c, d, e, f', g'] T (0, 0)) := by
  simp [World.setCell, Array.getElem?_modify, h]
set_option maxHeartbeats 8000000 in
theorem radd_fin (w : World) (v : Value) (f x F : Nat) (s T : Int) (ok : Bool) (h : SumV w v f s) (hx : W64 x) (hk : kindI x = 1)
    (HJ0 : ∀ w1 v1 v2, SumV w1 v1 f s → SumV w1 v2 16 (unitsI x) → Calls Tryz.prog 58 #[v1, v2] w1 (RJoinP F T ok w1)) :
    Calls Tryz.prog 108 #[v, .float .f64 x] w (RJoinP F T ok w) := by
  have hs := h
  obtain ⟨nb, p, l, c, rfl, hn, hg⟩ := h
  have HS := Lib.hid (fun w1 => rsplit_u x w1 hx hk)
  have HK := Lib.hid (fun w1 => rkind_any x w1 hx)
  rw [hk] at HK
  have hneg := units_neg hx hk
  have hgo : Good 16 (unitsI x) := by have := good_one x hx; rwa [flag_one hx hk] at this
  have HGo := Lib.hid hgo
  have HM := Lib.hid (fun w1 u v a b (hu : IsNum w1 u a) (hv : IsNum w1 v b) (ha : Sized 20000 a) (hb : Sized 20000 b) => num_mul u v a b 20000 w1 hu hv ha hb (by decide))
  have HNe := Lib.hid (fun w1 u (hu : IsNum w1 u ((unitsI x).natAbs : Int)) => neg_any u _ 20000 w1 hu (sized_nabs (sized_fits hgo.2.2)) (by decide))
  have HNt := Lib.hid (fun w1 m h0 h1 => nat_any m w1 h0 h1)
  have HJ := Lib.hid HJ0
  have HV := Lib.hid (fun w1 (hb : Below w.heap.size w w1) => hs.below hb)
  have hval : negB x = true → -((unitsI x).natAbs : Int) = unitsI x := fun e => by have := signed_val true (unitsI x) (by rw [hneg, e]); simpa [signed] using this
  have hval2 : negB x = false → ((unitsI x).natAbs : Int) = unitsI x := fun e => by have := signed_val false (unitsI x) (by rw [hneg, e]); simpa [signed] using this
  have hX := two_blocks w (.cells #[.bool (bitB f 0), .bool (bitB f 1), .bool (bitB f 2), .bool (bitB f 3), .bool (bitB f 4), .bool nb, .slice p l c] 95) (.cells #[.bool false, .bool false, .bool false, .bool false, .bool false, .bool false, .slice none 0 0] 95)
  have hB := below_two w (.cells #[.bool (bitB f 0), .bool (bitB f 1), .bool (bitB f 2), .bool (bitB f 3), .bool (bitB f 4), .bool nb, .slice p l c] 95) (.cells #[.bool false, .bool false, .bool false, .bool false, .bool false, .bool false, .slice none 0 0] 95)
  generalize hX0 : ((w.alloc (.cells #[.bool (bitB f 0), .bool (bitB f 1), .bool (bitB f 2), .bool (bitB f 3), .bool (bitB f 4), .bool nb, .slice p l c] 95)).alloc (.cells #[.bool false, .bool false, .bool false, .bool false, .bool false, .bool false, .slice none 0 0] 95)) = W0 at *
  have HX := Lib.hid hX
  have HB := Lib.hid hB
  unfold RJoinP at *
  generalize unitsI x = t at *
  generalize hnx : negB x = b at *
  generalize hx0 : bitB f 0 = x0 at *
  generalize hx1 : bitB f 1 = x1 at *
  generalize hx2 : bitB f 2 = x2 at *
  generalize hx3 : bitB f 3 = x3 at *
  generalize hx4 : bitB f 4 = x4 at *
  have HXX := Lib.hid (And.intro hx0 (And.intro hx1 (And.intro hx2 (And.intro hx3 hx4))))
  have HVal := Lib.hid (And.intro hval hval2)
  have HX0 := Lib.hid hX0
  clear hs hn hg hx hk hneg hgo hnx HJ0 hX hB hx0 hx1 hx2 hx3 hx4 hval hval2 hX0
  go_enter Tryz.func108, Tryz.ntmps108
  go_wp2_with fail
  rw [HX0.out]
  refine (HS.out W0).mono ?_; rintro e w2 ⟨⟨m, k, m0, m1, k0, k1, hmk, rfl⟩, hd⟩
  obtain ⟨N, hN⟩ := Int.eq_ofNat_of_zero_le (show 0 ≤ k + 1074 by omega)
  have HN := Lib.hid (And.intro hN (hmk N hN))
  have HB2 := Lib.hid (below_then HB.out hd.below)
  have HX2 := Lib.hid (And.intro (heap_then HX.out.1 hd.below) (heap_then HX.out.2 hd.below))
  clear hN hmk hd HS HB HX HX0
  go_wp2_with fail
  refine (HK.out w2).mono ?_; rintro e w3 ⟨rfl, hd⟩
  have hb3 : Below w2.heap.size w2 w3 := by obtain ⟨n, rfl⟩ := hd; exact below_drewN (Below.refl _ _) n
  have HB3 := Lib.hid (below_then HB2.out hb3)
  have HX3 := Lib.hid (And.intro (heap_then HX2.out.1 hb3) (heap_then HX2.out.2 hb3))
  clear hd hb3 HK HB2 HX2
  go_wp2_with fail
  refine (HNt.out w3 m m0 m1).mono ?_; rintro e w4 ⟨mv, rfl, hmv, hb4⟩
  obtain ⟨mb, mp, ml, mc, rfl⟩ := hmv.shape
  have HMv := Lib.hid hmv
  have HB4 := Lib.hid (And.intro hb4 (below_then HB3.out hb4))
  clear hmv hb4 HNt
  go_wp2_with fail
  refine (two_num (k + 1074) N (Lib.hid HN.out.1) w4 (by have := HN.out.1; omega)).mono ?_; rintro e w5 ⟨tv, rfl, htv, hb5⟩
  have HM5 := Lib.hid (HM.out w5 _ tv m (2 ^ N) (HMv.out.below hb5) htv ((sized8 (by omega) (by omega)).mono (by decide)) (sized_two (by have := HN.out.1; omega)))
  rw [HN.out.2] at HM5
  obtain ⟨tb, tp, tl, tc, rfl⟩ := htv.shape
  have HB5 := Lib.hid (And.intro (below_then HB4.out.1 hb5) (below_then HB4.out.2 hb5))
  clear htv hb5 HM HMv HB4 HN
  go_wp2_with fail
  refine (HM5.out).mono ?_; rintro e w6 ⟨ov, rfl, hov, hb6⟩
  obtain ⟨ob, op, ol, oc, rfl⟩ := hov.shape
  have hb36 := below_then HB5.out.1 hb6
  have hb06 := below_then HB5.out.2 hb6
  have hW := below_one w6 (.cells #[.bool false, .bool false, .bool false, .bool false, .bool true, .bool ob, .slice op ol oc] 95)
  have HW := Lib.hid (And.intro (below_then hb06 hW) (And.intro (heap_then (heap_then HX3.out.1 hb36) hW) (And.intro (heap_then (heap_then HX3.out.2 hb36) hW) (And.intro (heap_alloc_new w6 (.cells #[.bool false, .bool false, .bool false, .bool false, .bool true, .bool ob, .slice op ol oc] 95)) (hov.below hW)))))
  have HLt := Lib.hid (show w.heap.size + 1 < w6.heap.size from (Array.getElem?_eq_some_iff.1 (heap_then HX3.out.2 hb36)).1)
  have hne : w.heap.size < w6.heap.size := by have := (Array.getElem?_eq_some_iff.1 (heap_then HX3.out.2 hb36)).1; omega
  obtain ⟨⟨q0, q1, q2, q3, q4, q5, q6⟩, -⟩ := seven_at HW.out.2.1
  obtain ⟨⟨o0, o1, o2, o3, o4, o5, o6⟩, -⟩ := seven_at HW.out.2.2.2.1
  clear hov hb6 hb36 hb06 hW HM5 HX3 HB5 HB3
  cases b
  · go_wp2_with fail
    have hO : SumV (w6.alloc (.cells #[.bool false, .bool false, .bool false, .bool false, .bool true, .bool ob, .slice op ol oc] 95)) (.agg #[.bool false, .bool false, .bool false, .bool false, .bool true, .bool ob, .slice op ol oc]) 16 t :=
      ⟨ob, op, ol, oc, by rw [bits16.1, bits16.2.1, bits16.2.2.1, bits16.2.2.2.1, bits16.2.2.2.2], by rw [← HVal.out.2 (by simp)]; exact HW.out.2.2.2.2, HGo.out⟩
    refine (HJ.out _ _ _ (HV.out _ HW.out.1) hO).mono ?_; rintro e w8 ⟨⟨rv, rfl, hrv⟩, hb8⟩
    obtain ⟨rb, rp, rl, rc, rfl, hn8, hg8⟩ := hrv
    have HGr := Lib.hid hg8
    have HN8 := Lib.hid hn8
    have hres := heap_then HW.out.2.2.1 hb8
    have HR := Lib.hid hres
    have HB8 := Lib.hid (below_then HW.out.1 hb8)
    obtain ⟨⟨r0, r1, r2, r3, r4, r5, r6⟩, f0, f1, f2, f3, f4, f5, f6⟩ := seven_at hres
    clear q0 q1 q2 q3 q4 q5 q6 o0 o1 o2 o3 o4 o5 o6 hO hn8 hg8 hres hb8 HJ HV HW HVal HGo HNe
    go_wp2_with fail
    have hf := set7 (a' := .bool (bitB F 0)) (b' := .bool (bitB F 1)) (c' := .bool (bitB F 2)) (d' := .bool (bitB F 3)) (e' := .bool (bitB F 4)) (f' := .bool rb) (g' := .slice rp rl rc) HR.out
    have hgr := grown7 w8 (w.heap.size + 1) (.bool (bitB F 0)) (.bool (bitB F 1)) (.bool (bitB F 2)) (.bool (bitB F 3)) (.bool (bitB F 4)) (.bool rb) (.slice rp rl rc)
    have hn := HN8.out.grown HR.out (by decide) hgr
    have hbl := HB8.out.grown hgr HB8.out.size (fun k hk => by simp only [Option.some.injEq] at hk; omega)
    generalize (((((((w8.setCell ⟨w.heap.size + 1, 0, none⟩ (.bool (bitB F 0))).setCell ⟨w.heap.size + 1, 1, none⟩ (.bool (bitB F 1))).setCell ⟨w.heap.size + 1, 2, none⟩ (.bool (bitB F 2))).setCell ⟨w.heap.size + 1, 3, none⟩ (.bool (bitB F 3))).setCell ⟨w.heap.size + 1, 4, none⟩ (.bool (bitB F 4))).setCell ⟨w.heap.size + 1, 5, none⟩ (.bool rb)).setCell ⟨w.heap.size + 1, 6, none⟩ (.slice rp rl rc)) = wz at *
    obtain ⟨⟨k0, k1, k2, k3, k4, k5, k6⟩, -⟩ := seven_at hf
    exact bodyPost_ret (v := .tuple #[.agg #[.bool (bitB F 0), .bool (bitB F 1), .bool (bitB F 2), .bool (bitB F 3), .bool (bitB F 4), .bool rb, .slice rp rl rc], .bool ok]) (by simp [results, Tryz.results108, go_sem, k0, k1, k2, k3, k4, k5, k6]) rfl ⟨⟨_, rfl, rb, rp, rl, rc, rfl, hn, HGr.out⟩, hbl⟩
  · go_wp2_with fail
    refine (HNe.out _ _ HW.out.2.2.2.2).mono ?_; rintro e w7 ⟨nv, rfl, hnv, hb7⟩
    obtain ⟨sb, sp, sl, sc, rfl⟩ := hnv.shape
    rw [HVal.out.1 (by simp)] at hnv
    have hM := heap_then HW.out.2.2.2.1 hb7
    have hQ := heap_then HW.out.2.1 hb7
    have hP := heap_then HW.out.2.2.1 hb7
    have hs56 := set56 (f' := .bool sb) (g' := .slice sp sl sc) hM
    have hgr2 := grown_then (grown_set w7 w6.heap.size 5 (.bool sb)) (grown_set _ w6.heap.size 6 (.slice sp sl sc))
    have hQ2 : ((w7.setCell ⟨w6.heap.size, 5, none⟩ (.bool sb)).setCell ⟨w6.heap.size, 6, none⟩ (.slice sp sl sc)).heap[w.heap.size]? = _ := (hgr2.block _ (Array.getElem?_eq_some_iff.1 hQ).1 (by simp; omega)).trans hQ
    have hP2 : ((w7.setCell ⟨w6.heap.size, 5, none⟩ (.bool sb)).setCell ⟨w6.heap.size, 6, none⟩ (.slice sp sl sc)).heap[w.heap.size + 1]? = _ := (hgr2.block _ (Array.getElem?_eq_some_iff.1 hP).1 (by have := HLt.out; simp; omega)).trans hP
    have hnv2 := hnv.grown hM (by decide) hgr2
    have hb72 := (below_then HW.out.1 hb7).grown hgr2 (below_then HW.out.1 hb7).size (fun k hk => by simp only [Option.some.injEq] at hk; omega)
    have HW2 := Lib.hid (And.intro hb72 (And.intro hP2 hnv2))
    obtain ⟨⟨q0, q1, q2, q3, q4, q5, q6⟩, -⟩ := seven_at hQ2
    obtain ⟨⟨t0, t1, t2, t3, t4, t5, t6⟩, -⟩ := seven_at hs56
    obtain ⟨⟨-, -, -, -, -, m5, m6⟩, -, -, -, -, -, n5, n6⟩ := seven_at hM
    clear o0 o1 o2 o3 o4 o5 o6 hnv hM hQ hP hs56 hgr2 hQ2 hP2 hnv2 hb72 HW HNe hb7
    go_wp2_with fail
    have hO : SumV ((w7.setCell ⟨w6.heap.size, 5, none⟩ (.bool sb)).setCell ⟨w6.heap.size, 6, none⟩ (.slice sp sl sc)) (.agg #[.bool false, .bool false, .bool false, .bool false, .bool true, .bool sb, .slice sp sl sc]) 16 t :=
      ⟨sb, sp, sl, sc, by rw [bits16.1, bits16.2.1, bits16.2.2.1, bits16.2.2.2.1, bits16.2.2.2.2], HW2.out.2.2, HGo.out⟩
    refine (HJ.out _ _ _ (HV.out _ HW2.out.1) hO).mono ?_; rintro e w8 ⟨⟨rv, rfl, hrv⟩, hb8⟩
    obtain ⟨rb, rp, rl, rc, rfl, hn8, hg8⟩ := hrv
    have HGr := Lib.hid hg8
    have HN8 := Lib.hid hn8
    have hres := heap_then HW2.out.2.1 hb8
    have HR := Lib.hid hres
    have HB8 := Lib.hid (below_then HW2.out.1 hb8)
    obtain ⟨⟨r0, r1, r2, r3, r4, r5, r6⟩, f0, f1, f2, f3, f4, f5, f6⟩ := seven_at hres
    clear q0 q1 q2 q3 q4 q5 q6 t0 t1 t2 t3 t4 t5 t6 m5 m6 n5 n6 hO hn8 hg8 hres hb8 HJ HV HW2 HVal HGo
    go_wp2_with fail
    have hf := set7 (a' := .bool (bitB F 0)) (b' := .bool (bitB F 1)) (c' := .bool (bitB F 2)) (d' := .bool (bitB F 3)) (e' := .bool (bitB F 4)) (f' := .bool rb) (g' := .slice rp rl rc) HR.out
    have hgr := grown7 w8 (w.heap.size + 1) (.bool (bitB F 0)) (.bool (bitB F 1)) (.bool (bitB F 2)) (.bool (bitB F 3)) (.bool (bitB F 4)) (.bool rb) (.slice rp rl rc)
    have hn := HN8.out.grown HR.out (by decide) hgr
    have hbl := HB8.out.grown hgr HB8.out.size (fun k hk => by simp only [Option.some.injEq] at hk; omega)
    generalize (((((((w8.setCell ⟨w.heap.size + 1, 0, none⟩ (.bool (bitB F 0))).setCell ⟨w.heap.size + 1, 1, none⟩ (.bool (bitB F 1))).setCell ⟨w.heap.size + 1, 2, none⟩ (.bool (bitB F 2))).setCell ⟨w.heap.size + 1, 3, none⟩ (.bool (bitB F 3))).setCell ⟨w.heap.size + 1, 4, none⟩ (.bool (bitB F 4))).setCell ⟨w.heap.size + 1, 5, none⟩ (.bool rb)).setCell ⟨w.heap.size + 1, 6, none⟩ (.slice rp rl rc)) = wz at *
    obtain ⟨⟨k0, k1, k2, k3, k4, k5, k6⟩, -⟩ := seven_at hf
    exact bodyPost_ret (v := .tuple #[.agg #[.bool (bitB F 0), .bool (bitB F 1), .bool (bitB F 2), .bool (bitB F 3), .bool (bitB F 4), .bool rb, .slice rp rl rc], .bool ok]) (by simp [results, Tryz.results108, go_sem, k0, k1, k2, k3, k4, k5, k6]) rfl ⟨⟨_, rfl, rb, rp, rl, rc, rfl, hn, HGr.out⟩, hbl⟩
set_option maxRecDepth 100000
open Go.RowKit
set_option linter.unusedVariables false
theorem bits1 : bitB 1 0 = true ∧ bitB 1 1 = false ∧ bitB 1 2 = false ∧ bitB 1 3 = false ∧ bitB 1 4 = false := by decide
theorem bits2 : bitB 2 0 = false ∧ bitB 2 1 = true ∧ bitB 2 2 = false ∧ bitB 2 3 = false ∧ bitB 2 4 = false := by decide
theorem bits4 : bitB 4 0 = false ∧ bitB 4 1 = false ∧ bitB 4 2 = true ∧ bitB 4 3 = false ∧ bitB 4 4 = false := by decide
theorem bits8 : bitB 8 0 = false ∧ bitB 8 1 = false ∧ bitB 8 2 = false ∧ bitB 8 3 = true ∧ bitB 8 4 = false := by decide
theorem Good.flag {f g : Nat} {s : Int} (h : Good f s) (hg : g < 32) : Good (f ||| g) s :=
  ⟨or_lt h.1 hg, fun hh => by rw [Nat.testBit_or, h.2.1 hh]; rfl, h.2.2⟩
set_option maxHeartbeats 8000000 in
theorem radd_nan (w : World) (v : Value) (f x : Nat) (s : Int) (h : SumV w v f s) (hx : W64 x) (hk : kindI x = 3) (hb : belowB x = false) :
    Calls Tryz.prog 108 #[v, .float .f64 x] w (RJoinP (f ||| 1) s true w) := by
  obtain ⟨nb, p, l, c, rfl, hn, hg⟩ := h
  have HS := Lib.hid (fun w1 => rsplit_other x w1 hx (by omega))
  have HK := Lib.hid (fun w1 => rkind_any x w1 hx)
  rw [hk] at HK
  rw [hb] at HS
  have HGr := Lib.hid (hg.flag (g := 1) (by decide))
  have HV := Lib.hid (fun w1 (hb : Below w.heap.size w w1) => hn.below hb)
  generalize hx0 : bitB f 0 = x0 at *
  generalize hx1 : bitB f 1 = x1 at *
  generalize hx2 : bitB f 2 = x2 at *
  generalize hx3 : bitB f 3 = x3 at *
  generalize hx4 : bitB f 4 = x4 at *
  have HXX := Lib.hid (And.intro hx0 (And.intro hx1 (And.intro hx2 (And.intro hx3 hx4))))
  have hX := two_blocks w (.cells #[.bool x0, .bool x1, .bool x2, .bool x3, .bool x4, .bool nb, .slice p l c] 95) (.cells #[.bool false, .bool false, .bool false, .bool false, .bool false, .bool false, .slice none 0 0] 95)
  have hB := below_two w (.cells #[.bool x0, .bool x1, .bool x2, .bool x3, .bool x4, .bool nb, .slice p l c] 95) (.cells #[.bool false, .bool false, .bool false, .bool false, .bool false, .bool false, .slice none 0 0] 95)
  generalize hX0 : ((w.alloc (.cells #[.bool x0, .bool x1, .bool x2, .bool x3, .bool x4, .bool nb, .slice p l c] 95)).alloc (.cells #[.bool false, .bool false, .bool false, .bool false, .bool false, .bool false, .slice none 0 0] 95)) = W0 at *
  have HX := Lib.hid hX
  have HB := Lib.hid hB
  have HX0 := Lib.hid hX0
  unfold RJoinP
  clear hn hg hx hk hb hX hB hx0 hx1 hx2 hx3 hx4 hX0
  go_enter Tryz.func108, Tryz.ntmps108
  go_wp2_with fail
  rw [HX0.out]
  refine (HS.out W0).mono ?_; rintro e w2 ⟨rfl, hd⟩
  have hb2 : Below W0.heap.size W0 w2 := by first | exact hd.below | (subst hd; exact Below.refl _ _)
  have HB2 := Lib.hid (below_then HB.out hb2)
  have HX2 := Lib.hid (And.intro (heap_then HX.out.1 hb2) (heap_then HX.out.2 hb2))
  clear hd hb2 HS HB HX HX0
  go_wp2_with fail
  refine (HK.out w2).mono ?_; rintro e w3 ⟨rfl, hd⟩
  have hb3 : Below w2.heap.size w2 w3 := by obtain ⟨n, rfl⟩ := hd; exact below_drewN (Below.refl _ _) n
  have HB3 := Lib.hid (below_then HB2.out hb3)
  have hx3 := heap_then HX2.out.1 hb3
  have hr3 := heap_then HX2.out.2 hb3
  have hN3 := HV.out w3 HB3.out
  obtain ⟨⟨q0, q1, q2, q3, q4, q5, q6⟩, z0, z1, z2, z3, z4, z5, z6⟩ := seven_at hx3
  clear hd hb3 HK HB2 HX2 HV
  have hh0 : (w3.setCell ⟨w.heap.size, 0, none⟩ (.bool true)).heap[w.heap.size]? = some (.cells #[.bool true, .bool x1, .bool x2, .bool x3, .bool x4, .bool nb, .slice p l c] 95 (0, 0)) := by simp [World.setCell, Array.getElem?_modify, hx3]
  have hg0 := grown_set w3 (w.heap.size) 0 (.bool true)
  have hrx : (w3.setCell ⟨w.heap.size, 0, none⟩ (.bool true)).heap[w.heap.size + 1]? = _ := (hg0.block _ (Array.getElem?_eq_some_iff.1 hr3).1 (by simp)).trans hr3
  have hNx := hN3.grown hx3 (by decide) hg0
  have hBx := HB3.out.grown hg0 HB3.out.size (fun k hk => by simp only [Option.some.injEq] at hk; omega)
  obtain ⟨⟨u00, u01, u02, u03, u04, u05, u06⟩, v00, v01, v02, v03, v04, v05, v06⟩ := seven_at hh0
  obtain ⟨⟨r0, r1, r2, r3, r4, r5, r6⟩, f0, f1, f2, f3, f4, f5, f6⟩ := seven_at hrx
  have HR := Lib.hid hrx
  have HNx := Lib.hid hNx
  have HBx := Lib.hid hBx
  clear hN3 hx3 hr3 hrx hNx hBx hh0 hg0
  go_wp2_with fail
  have hf := set7 (a' := .bool true) (b' := .bool x1) (c' := .bool x2) (d' := .bool x3) (e' := .bool x4) (f' := .bool nb) (g' := .slice p l c) HR.out
  have hgr := grown7 (w3.setCell ⟨w.heap.size, 0, none⟩ (.bool true)) (w.heap.size + 1) (.bool true) (.bool x1) (.bool x2) (.bool x3) (.bool x4) (.bool nb) (.slice p l c)
  have hn := HNx.out.grown HR.out (by decide) hgr
  have hbl := HBx.out.grown hgr HBx.out.size (fun k hk => by simp only [Option.some.injEq] at hk; omega)
  generalize ((((((((w3.setCell ⟨w.heap.size, 0, none⟩ (.bool true)).setCell ⟨w.heap.size + 1, 0, none⟩ (.bool true)).setCell ⟨w.heap.size + 1, 1, none⟩ (.bool x1)).setCell ⟨w.heap.size + 1, 2, none⟩ (.bool x2)).setCell ⟨w.heap.size + 1, 3, none⟩ (.bool x3)).setCell ⟨w.heap.size + 1, 4, none⟩ (.bool x4)).setCell ⟨w.heap.size + 1, 5, none⟩ (.bool nb)).setCell ⟨w.heap.size + 1, 6, none⟩ (.slice p l c)) = wz at *
  obtain ⟨⟨k0, k1, k2, k3, k4, k5, k6⟩, -⟩ := seven_at hf
  exact bodyPost_ret (v := .tuple #[.agg #[.bool true, .bool x1, .bool x2, .bool x3, .bool x4, .bool nb, .slice p l c], .bool true]) (by simp [results, Tryz.results108, go_sem, k0, k1, k2, k3, k4, k5, k6]) rfl ⟨⟨_, rfl, nb, p, l, c, by rw [bitB_or, bitB_or, bitB_or, bitB_or, bitB_or, HXX.out.1, HXX.out.2.1, HXX.out.2.2.1, HXX.out.2.2.2.1, HXX.out.2.2.2.2]; simp [bits1], hn, HGr.out⟩, hbl⟩
set_option maxHeartbeats 8000000 in
theorem radd_inf_pos (w : World) (v : Value) (f x : Nat) (s : Int) (h : SumV w v f s) (hx : W64 x) (hk : kindI x = 2) (hb : belowB x = false) :
    Calls Tryz.prog 108 #[v, .float .f64 x] w (RJoinP (f ||| 2) s true w) := by
  obtain ⟨nb, p, l, c, rfl, hn, hg⟩ := h
  have HS := Lib.hid (fun w1 => rsplit_other x w1 hx (by omega))
  have HK := Lib.hid (fun w1 => rkind_any x w1 hx)
  rw [hk] at HK
  rw [hb] at HS
  have HGr := Lib.hid (hg.flag (g := 2) (by decide))
  have HV := Lib.hid (fun w1 (hb : Below w.heap.size w w1) => hn.below hb)
  generalize hx0 : bitB f 0 = x0 at *
  generalize hx1 : bitB f 1 = x1 at *
  generalize hx2 : bitB f 2 = x2 at *
  generalize hx3 : bitB f 3 = x3 at *
  generalize hx4 : bitB f 4 = x4 at *
  have HXX := Lib.hid (And.intro hx0 (And.intro hx1 (And.intro hx2 (And.intro hx3 hx4))))
  have hX := two_blocks w (.cells #[.bool x0, .bool x1, .bool x2, .bool x3, .bool x4, .bool nb, .slice p l c] 95) (.cells #[.bool false, .bool false, .bool false, .bool false, .bool false, .bool false, .slice none 0 0] 95)
  have hB := below_two w (.cells #[.bool x0, .bool x1, .bool x2, .bool x3, .bool x4, .bool nb, .slice p l c] 95) (.cells #[.bool false, .bool false, .bool false, .bool false, .bool false, .bool false, .slice none 0 0] 95)
  generalize hX0 : ((w.alloc (.cells #[.bool x0, .bool x1, .bool x2, .bool x3, .bool x4, .bool nb, .slice p l c] 95)).alloc (.cells #[.bool false, .bool false, .bool false, .bool false, .bool false, .bool false, .slice none 0 0] 95)) = W0 at *
  have HX := Lib.hid hX
  have HB := Lib.hid hB
  have HX0 := Lib.hid hX0
  unfold RJoinP
  clear hn hg hx hk hb hX hB hx0 hx1 hx2 hx3 hx4 hX0
  go_enter Tryz.func108, Tryz.ntmps108
  go_wp2_with fail
  rw [HX0.out]
  refine (HS.out W0).mono ?_; rintro e w2 ⟨rfl, hd⟩
  have hb2 : Below W0.heap.size W0 w2 := by first | exact hd.below | (subst hd; exact Below.refl _ _)
  have HB2 := Lib.hid (below_then HB.out hb2)
  have HX2 := Lib.hid (And.intro (heap_then HX.out.1 hb2) (heap_then HX.out.2 hb2))
  clear hd hb2 HS HB HX HX0
  go_wp2_with fail
  refine (HK.out w2).mono ?_; rintro e w3 ⟨rfl, hd⟩
  have hb3 : Below w2.heap.size w2 w3 := by obtain ⟨n, rfl⟩ := hd; exact below_drewN (Below.refl _ _) n
  have HB3 := Lib.hid (below_then HB2.out hb3)
  have hx3 := heap_then HX2.out.1 hb3
  have hr3 := heap_then HX2.out.2 hb3
  have hN3 := HV.out w3 HB3.out
  obtain ⟨⟨q0, q1, q2, q3, q4, q5, q6⟩, z0, z1, z2, z3, z4, z5, z6⟩ := seven_at hx3
  clear hd hb3 HK HB2 HX2 HV
  cases x1
  · cases x2
    · have hh0 : (w3.setCell ⟨w.heap.size, 1, none⟩ (.bool true)).heap[w.heap.size]? = some (.cells #[.bool x0, .bool true, .bool false, .bool x3, .bool x4, .bool nb, .slice p l c] 95 (0, 0)) := by simp [World.setCell, Array.getElem?_modify, hx3]
      have hg0 := grown_set w3 (w.heap.size) 1 (.bool true)
      have hh1 : ((w3.setCell ⟨w.heap.size, 1, none⟩ (.bool true)).setCell ⟨w.heap.size, 2, none⟩ (.bool false)).heap[w.heap.size]? = some (.cells #[.bool x0, .bool true, .bool false, .bool x3, .bool x4, .bool nb, .slice p l c] 95 (0, 0)) := by simp [World.setCell, Array.getElem?_modify, hx3]
      have hg1 := grown_then hg0 (grown_set (w3.setCell ⟨w.heap.size, 1, none⟩ (.bool true)) (w.heap.size) 2 (.bool false))
      have hrx : ((w3.setCell ⟨w.heap.size, 1, none⟩ (.bool true)).setCell ⟨w.heap.size, 2, none⟩ (.bool false)).heap[w.heap.size + 1]? = _ := (hg1.block _ (Array.getElem?_eq_some_iff.1 hr3).1 (by simp)).trans hr3
      have hNx := hN3.grown hx3 (by decide) hg1
      have hBx := HB3.out.grown hg1 HB3.out.size (fun k hk => by simp only [Option.some.injEq] at hk; omega)
      obtain ⟨⟨u00, u01, u02, u03, u04, u05, u06⟩, v00, v01, v02, v03, v04, v05, v06⟩ := seven_at hh0
      obtain ⟨⟨u10, u11, u12, u13, u14, u15, u16⟩, v10, v11, v12, v13, v14, v15, v16⟩ := seven_at hh1
      obtain ⟨⟨r0, r1, r2, r3, r4, r5, r6⟩, f0, f1, f2, f3, f4, f5, f6⟩ := seven_at hrx
      have HR := Lib.hid hrx
      have HNx := Lib.hid hNx
      have HBx := Lib.hid hBx
      clear hN3 hx3 hr3 hrx hNx hBx hh0 hg0 hh1 hg1
      go_wp2_with fail
      have hf := set7 (a' := .bool x0) (b' := .bool true) (c' := .bool false) (d' := .bool x3) (e' := .bool x4) (f' := .bool nb) (g' := .slice p l c) HR.out
      have hgr := grown7 ((w3.setCell ⟨w.heap.size, 1, none⟩ (.bool true)).setCell ⟨w.heap.size, 2, none⟩ (.bool false)) (w.heap.size + 1) (.bool x0) (.bool true) (.bool false) (.bool x3) (.bool x4) (.bool nb) (.slice p l c)
      have hn := HNx.out.grown HR.out (by decide) hgr
      have hbl := HBx.out.grown hgr HBx.out.size (fun k hk => by simp only [Option.some.injEq] at hk; omega)
      generalize (((((((((w3.setCell ⟨w.heap.size, 1, none⟩ (.bool true)).setCell ⟨w.heap.size, 2, none⟩ (.bool false)).setCell ⟨w.heap.size + 1, 0, none⟩ (.bool x0)).setCell ⟨w.heap.size + 1, 1, none⟩ (.bool true)).setCell ⟨w.heap.size + 1, 2, none⟩ (.bool false)).setCell ⟨w.heap.size + 1, 3, none⟩ (.bool x3)).setCell ⟨w.heap.size + 1, 4, none⟩ (.bool x4)).setCell ⟨w.heap.size + 1, 5, none⟩ (.bool nb)).setCell ⟨w.heap.size + 1, 6, none⟩ (.slice p l c)) = wz at *
      obtain ⟨⟨k0, k1, k2, k3, k4, k5, k6⟩, -⟩ := seven_at hf
      exact bodyPost_ret (v := .tuple #[.agg #[.bool x0, .bool true, .bool false, .bool x3, .bool x4, .bool nb, .slice p l c], .bool true]) (by simp [results, Tryz.results108, go_sem, k0, k1, k2, k3, k4, k5, k6]) rfl ⟨⟨_, rfl, nb, p, l, c, by rw [bitB_or, bitB_or, bitB_or, bitB_or, bitB_or, HXX.out.1, HXX.out.2.1, HXX.out.2.2.1, HXX.out.2.2.2.1, HXX.out.2.2.2.2]; simp [bits2], hn, HGr.out⟩, hbl⟩
    · have hh0 : (w3.setCell ⟨w.heap.size, 1, none⟩ (.bool true)).heap[w.heap.size]? = some (.cells #[.bool x0, .bool true, .bool true, .bool x3, .bool x4, .bool nb, .slice p l c] 95 (0, 0)) := by simp [World.setCell, Array.getElem?_modify, hx3]
      have hg0 := grown_set w3 (w.heap.size) 1 (.bool true)
      have hh1 : ((w3.setCell ⟨w.heap.size, 1, none⟩ (.bool true)).setCell ⟨w.heap.size, 2, none⟩ (.bool true)).heap[w.heap.size]? = some (.cells #[.bool x0, .bool true, .bool true, .bool x3, .bool x4, .bool nb, .slice p l c] 95 (0, 0)) := by simp [World.setCell, Array.getElem?_modify, hx3]
      have hg1 := grown_then hg0 (grown_set (w3.setCell ⟨w.heap.size, 1, none⟩ (.bool true)) (w.heap.size) 2 (.bool true))
      have hrx : ((w3.setCell ⟨w.heap.size, 1, none⟩ (.bool true)).setCell ⟨w.heap.size, 2, none⟩ (.bool true)).heap[w.heap.size + 1]? = _ := (hg1.block _ (Array.getElem?_eq_some_iff.1 hr3).1 (by simp)).trans hr3
      have hNx := hN3.grown hx3 (by decide) hg1
      have hBx := HB3.out.grown hg1 HB3.out.size (fun k hk => by simp only [Option.some.injEq] at hk; omega)
      obtain ⟨⟨u00, u01, u02, u03, u04, u05, u06⟩, v00, v01, v02, v03, v04, v05, v06⟩ := seven_at hh0
      obtain ⟨⟨u10, u11, u12, u13, u14, u15, u16⟩, v10, v11, v12, v13, v14, v15, v16⟩ := seven_at hh1
      obtain ⟨⟨r0, r1, r2, r3, r4, r5, r6⟩, f0, f1, f2, f3, f4, f5, f6⟩ := seven_at hrx
      have HR := Lib.hid hrx
      have HNx := Lib.hid hNx
      have HBx := Lib.hid hBx
      clear hN3 hx3 hr3 hrx hNx hBx hh0 hg0 hh1 hg1
      go_wp2_with fail
      have hf := set7 (a' := .bool x0) (b' := .bool true) (c' := .bool true) (d' := .bool x3) (e' := .bool x4) (f' := .bool nb) (g' := .slice p l c) HR.out
      have hgr := grown7 ((w3.setCell ⟨w.heap.size, 1, none⟩ (.bool true)).setCell ⟨w.heap.size, 2, none⟩ (.bool true)) (w.heap.size + 1) (.bool x0) (.bool true) (.bool true) (.bool x3) (.bool x4) (.bool nb) (.slice p l c)
      have hn := HNx.out.grown HR.out (by decide) hgr
      have hbl := HBx.out.grown hgr HBx.out.size (fun k hk => by simp only [Option.some.injEq] at hk; omega)
      generalize (((((((((w3.setCell ⟨w.heap.size, 1, none⟩ (.bool true)).setCell ⟨w.heap.size, 2, none⟩ (.bool true)).setCell ⟨w.heap.size + 1, 0, none⟩ (.bool x0)).setCell ⟨w.heap.size + 1, 1, none⟩ (.bool true)).setCell ⟨w.heap.size + 1, 2, none⟩ (.bool true)).setCell ⟨w.heap.size + 1, 3, none⟩ (.bool x3)).setCell ⟨w.heap.size + 1, 4, none⟩ (.bool x4)).setCell ⟨w.heap.size + 1, 5, none⟩ (.bool nb)).setCell ⟨w.heap.size + 1, 6, none⟩ (.slice p l c)) = wz at *
      obtain ⟨⟨k0, k1, k2, k3, k4, k5, k6⟩, -⟩ := seven_at hf
      exact bodyPost_ret (v := .tuple #[.agg #[.bool x0, .bool true, .bool true, .bool x3, .bool x4, .bool nb, .slice p l c], .bool true]) (by simp [results, Tryz.results108, go_sem, k0, k1, k2, k3, k4, k5, k6]) rfl ⟨⟨_, rfl, nb, p, l, c, by rw [bitB_or, bitB_or, bitB_or, bitB_or, bitB_or, HXX.out.1, HXX.out.2.1, HXX.out.2.2.1, HXX.out.2.2.2.1, HXX.out.2.2.2.2]; simp [bits2], hn, HGr.out⟩, hbl⟩
  · cases x2
    · have hh0 : (w3.setCell ⟨w.heap.size, 1, none⟩ (.bool true)).heap[w.heap.size]? = some (.cells #[.bool x0, .bool true, .bool false, .bool x3, .bool x4, .bool nb, .slice p l c] 95 (0, 0)) := by simp [World.setCell, Array.getElem?_modify, hx3]
      have hg0 := grown_set w3 (w.heap.size) 1 (.bool true)
      have hh1 : ((w3.setCell ⟨w.heap.size, 1, none⟩ (.bool true)).setCell ⟨w.heap.size, 2, none⟩ (.bool false)).heap[w.heap.size]? = some (.cells #[.bool x0, .bool true, .bool false, .bool x3, .bool x4, .bool nb, .slice p l c] 95 (0, 0)) := by simp [World.setCell, Array.getElem?_modify, hx3]
      have hg1 := grown_then hg0 (grown_set (w3.setCell ⟨w.heap.size, 1, none⟩ (.bool true)) (w.heap.size) 2 (.bool false))
      have hrx : ((w3.setCell ⟨w.heap.size, 1, none⟩ (.bool true)).setCell ⟨w.heap.size, 2, none⟩ (.bool false)).heap[w.heap.size + 1]? = _ := (hg1.block _ (Array.getElem?_eq_some_iff.1 hr3).1 (by simp)).trans hr3
      have hNx := hN3.grown hx3 (by decide) hg1
      have hBx := HB3.out.grown hg1 HB3.out.size (fun k hk => by simp only [Option.some.injEq] at hk; omega)
      obtain ⟨⟨u00, u01, u02, u03, u04, u05, u06⟩, v00, v01, v02, v03, v04, v05, v06⟩ := seven_at hh0
      obtain ⟨⟨u10, u11, u12, u13, u14, u15, u16⟩, v10, v11, v12, v13, v14, v15, v16⟩ := seven_at hh1
      obtain ⟨⟨r0, r1, r2, r3, r4, r5, r6⟩, f0, f1, f2, f3, f4, f5, f6⟩ := seven_at hrx
      have HR := Lib.hid hrx
      have HNx := Lib.hid hNx
      have HBx := Lib.hid hBx
      clear hN3 hx3 hr3 hrx hNx hBx hh0 hg0 hh1 hg1
      go_wp2_with fail
      have hf := set7 (a' := .bool x0) (b' := .bool true) (c' := .bool false) (d' := .bool x3) (e' := .bool x4) (f' := .bool nb) (g' := .slice p l c) HR.out
      have hgr := grown7 ((w3.setCell ⟨w.heap.size, 1, none⟩ (.bool true)).setCell ⟨w.heap.size, 2, none⟩ (.bool false)) (w.heap.size + 1) (.bool x0) (.bool true) (.bool false) (.bool x3) (.bool x4) (.bool nb) (.slice p l c)
      have hn := HNx.out.grown HR.out (by decide) hgr
      have hbl := HBx.out.grown hgr HBx.out.size (fun k hk => by simp only [Option.some.injEq] at hk; omega)
      generalize (((((((((w3.setCell ⟨w.heap.size, 1, none⟩ (.bool true)).setCell ⟨w.heap.size, 2, none⟩ (.bool false)).setCell ⟨w.heap.size + 1, 0, none⟩ (.bool x0)).setCell ⟨w.heap.size + 1, 1, none⟩ (.bool true)).setCell ⟨w.heap.size + 1, 2, none⟩ (.bool false)).setCell ⟨w.heap.size + 1, 3, none⟩ (.bool x3)).setCell ⟨w.heap.size + 1, 4, none⟩ (.bool x4)).setCell ⟨w.heap.size + 1, 5, none⟩ (.bool nb)).setCell ⟨w.heap.size + 1, 6, none⟩ (.slice p l c)) = wz at *
      obtain ⟨⟨k0, k1, k2, k3, k4, k5, k6⟩, -⟩ := seven_at hf
      exact bodyPost_ret (v := .tuple #[.agg #[.bool x0, .bool true, .bool false, .bool x3, .bool x4, .bool nb, .slice p l c], .bool true]) (by simp [results, Tryz.results108, go_sem, k0, k1, k2, k3, k4, k5, k6]) rfl ⟨⟨_, rfl, nb, p, l, c, by rw [bitB_or, bitB_or, bitB_or, bitB_or, bitB_or, HXX.out.1, HXX.out.2.1, HXX.out.2.2.1, HXX.out.2.2.2.1, HXX.out.2.2.2.2]; simp [bits2], hn, HGr.out⟩, hbl⟩
    · have hh0 : (w3.setCell ⟨w.heap.size, 1, none⟩ (.bool true)).heap[w.heap.size]? = some (.cells #[.bool x0, .bool true, .bool true, .bool x3, .bool x4, .bool nb, .slice p l c] 95 (0, 0)) := by simp [World.setCell, Array.getElem?_modify, hx3]
      have hg0 := grown_set w3 (w.heap.size) 1 (.bool true)
      have hh1 : ((w3.setCell ⟨w.heap.size, 1, none⟩ (.bool true)).setCell ⟨w.heap.size, 2, none⟩ (.bool true)).heap[w.heap.size]? = some (.cells #[.bool x0, .bool true, .bool true, .bool x3, .bool x4, .bool nb, .slice p l c] 95 (0, 0)) := by simp [World.setCell, Array.getElem?_modify, hx3]
      have hg1 := grown_then hg0 (grown_set (w3.setCell ⟨w.heap.size, 1, none⟩ (.bool true)) (w.heap.size) 2 (.bool true))
      have hrx : ((w3.setCell ⟨w.heap.size, 1, none⟩ (.bool true)).setCell ⟨w.heap.size, 2, none⟩ (.bool true)).heap[w.heap.size + 1]? = _ := (hg1.block _ (Array.getElem?_eq_some_iff.1 hr3).1 (by simp)).trans hr3
      have hNx := hN3.grown hx3 (by decide) hg1
      have hBx := HB3.out.grown hg1 HB3.out.size (fun k hk => by simp only [Option.some.injEq] at hk; omega)
      obtain ⟨⟨u00, u01, u02, u03, u04, u05, u06⟩, v00, v01, v02, v03, v04, v05, v06⟩ := seven_at hh0
      obtain ⟨⟨u10, u11, u12, u13, u14, u15, u16⟩, v10, v11, v12, v13, v14, v15, v16⟩ := seven_at hh1
      obtain ⟨⟨r0, r1, r2, r3, r4, r5, r6⟩, f0, f1, f2, f3, f4, f5, f6⟩ := seven_at hrx
      have HR := Lib.hid hrx
      have HNx := Lib.hid hNx
      have HBx := Lib.hid hBx
      clear hN3 hx3 hr3 hrx hNx hBx hh0 hg0 hh1 hg1
      go_wp2_with fail
      have hf := set7 (a' := .bool x0) (b' := .bool true) (c' := .bool true) (d' := .bool x3) (e' := .bool x4) (f' := .bool nb) (g' := .slice p l c) HR.out
      have hgr := grown7 ((w3.setCell ⟨w.heap.size, 1, none⟩ (.bool true)).setCell ⟨w.heap.size, 2, none⟩ (.bool true)) (w.heap.size + 1) (.bool x0) (.bool true) (.bool true) (.bool x3) (.bool x4) (.bool nb) (.slice p l c)
      have hn := HNx.out.grown HR.out (by decide) hgr
      have hbl := HBx.out.grown hgr HBx.out.size (fun k hk => by simp only [Option.some.injEq] at hk; omega)
      generalize (((((((((w3.setCell ⟨w.heap.size, 1, none⟩ (.bool true)).setCell ⟨w.heap.size, 2, none⟩ (.bool true)).setCell ⟨w.heap.size + 1, 0, none⟩ (.bool x0)).setCell ⟨w.heap.size + 1, 1, none⟩ (.bool true)).setCell ⟨w.heap.size + 1, 2, none⟩ (.bool true)).setCell ⟨w.heap.size + 1, 3, none⟩ (.bool x3)).setCell ⟨w.heap.size + 1, 4, none⟩ (.bool x4)).setCell ⟨w.heap.size + 1, 5, none⟩ (.bool nb)).setCell ⟨w.heap.size + 1, 6, none⟩ (.slice p l c)) = wz at *
      obtain ⟨⟨k0, k1, k2, k3, k4, k5, k6⟩, -⟩ := seven_at hf
      exact bodyPost_ret (v := .tuple #[.agg #[.bool x0, .bool true, .bool true, .bool x3, .bool x4, .bool nb, .slice p l c], .bool true]) (by simp [results, Tryz.results108, go_sem, k0, k1, k2, k3, k4, k5, k6]) rfl ⟨⟨_, rfl, nb, p, l, c, by rw [bitB_or, bitB_or, bitB_or, bitB_or, bitB_or, HXX.out.1, HXX.out.2.1, HXX.out.2.2.1, HXX.out.2.2.2.1, HXX.out.2.2.2.2]; simp [bits2], hn, HGr.out⟩, hbl⟩
set_option maxHeartbeats 8000000 in
theorem radd_inf_neg (w : World) (v : Value) (f x : Nat) (s : Int) (h : SumV w v f s) (hx : W64 x) (hk : kindI x = 2) (hb : belowB x = true) :
    Calls Tryz.prog 108 #[v, .float .f64 x] w (RJoinP (f ||| 4) s true w) := by
  obtain ⟨nb, p, l, c, rfl, hn, hg⟩ := h
  have HS := Lib.hid (fun w1 => rsplit_other x w1 hx (by omega))
  have HK := Lib.hid (fun w1 => rkind_any x w1 hx)
  rw [hk] at HK
  rw [hb] at HS
  have HGr := Lib.hid (hg.flag (g := 4) (by decide))
  have HV := Lib.hid (fun w1 (hb : Below w.heap.size w w1) => hn.below hb)
  generalize hx0 : bitB f 0 = x0 at *
  generalize hx1 : bitB f 1 = x1 at *
  generalize hx2 : bitB f 2 = x2 at *
  generalize hx3 : bitB f 3 = x3 at *
  generalize hx4 : bitB f 4 = x4 at *
  have HXX := Lib.hid (And.intro hx0 (And.intro hx1 (And.intro hx2 (And.intro hx3 hx4))))
  have hX := two_blocks w (.cells #[.bool x0, .bool x1, .bool x2, .bool x3, .bool x4, .bool nb, .slice p l c] 95) (.cells #[.bool false, .bool false, .bool false, .bool false, .bool false, .bool false, .slice none 0 0] 95)
  have hB := below_two w (.cells #[.bool x0, .bool x1, .bool x2, .bool x3, .bool x4, .bool nb, .slice p l c] 95) (.cells #[.bool false, .bool false, .bool false, .bool false, .bool false, .bool false, .slice none 0 0] 95)
  generalize hX0 : ((w.alloc (.cells #[.bool x0, .bool x1, .bool x2, .bool x3, .bool x4, .bool nb, .slice p l c] 95)).alloc (.cells #[.bool false, .bool false, .bool false, .bool false, .bool false, .bool false, .slice none 0 0] 95)) = W0 at *
  have HX := Lib.hid hX
  have HB := Lib.hid hB
  have HX0 := Lib.hid hX0
  unfold RJoinP
  clear hn hg hx hk hb hX hB hx0 hx1 hx2 hx3 hx4 hX0
  go_enter Tryz.func108, Tryz.ntmps108
  go_wp2_with fail
  rw [HX0.out]
  refine (HS.out W0).mono ?_; rintro e w2 ⟨rfl, hd⟩
  have hb2 : Below W0.heap.size W0 w2 := by first | exact hd.below | (subst hd; exact Below.refl _ _)
  have HB2 := Lib.hid (below_then HB.out hb2)
  have HX2 := Lib.hid (And.intro (heap_then HX.out.1 hb2) (heap_then HX.out.2 hb2))
  clear hd hb2 HS HB HX HX0
  go_wp2_with fail
  refine (HK.out w2).mono ?_; rintro e w3 ⟨rfl, hd⟩
  have hb3 : Below w2.heap.size w2 w3 := by obtain ⟨n, rfl⟩ := hd; exact below_drewN (Below.refl _ _) n
  have HB3 := Lib.hid (below_then HB2.out hb3)
  have hx3 := heap_then HX2.out.1 hb3
  have hr3 := heap_then HX2.out.2 hb3
  have hN3 := HV.out w3 HB3.out
  obtain ⟨⟨q0, q1, q2, q3, q4, q5, q6⟩, z0, z1, z2, z3, z4, z5, z6⟩ := seven_at hx3
  clear hd hb3 HK HB2 HX2 HV
  cases x1
  · cases x2
    · have hh0 : (w3.setCell ⟨w.heap.size, 1, none⟩ (.bool false)).heap[w.heap.size]? = some (.cells #[.bool x0, .bool false, .bool false, .bool x3, .bool x4, .bool nb, .slice p l c] 95 (0, 0)) := by simp [World.setCell, Array.getElem?_modify, hx3]
      have hg0 := grown_set w3 (w.heap.size) 1 (.bool false)
      have hh1 : ((w3.setCell ⟨w.heap.size, 1, none⟩ (.bool false)).setCell ⟨w.heap.size, 2, none⟩ (.bool true)).heap[w.heap.size]? = some (.cells #[.bool x0, .bool false, .bool true, .bool x3, .bool x4, .bool nb, .slice p l c] 95 (0, 0)) := by simp [World.setCell, Array.getElem?_modify, hx3]
      have hg1 := grown_then hg0 (grown_set (w3.setCell ⟨w.heap.size, 1, none⟩ (.bool false)) (w.heap.size) 2 (.bool true))
      have hrx : ((w3.setCell ⟨w.heap.size, 1, none⟩ (.bool false)).setCell ⟨w.heap.size, 2, none⟩ (.bool true)).heap[w.heap.size + 1]? = _ := (hg1.block _ (Array.getElem?_eq_some_iff.1 hr3).1 (by simp)).trans hr3
      have hNx := hN3.grown hx3 (by decide) hg1
      have hBx := HB3.out.grown hg1 HB3.out.size (fun k hk => by simp only [Option.some.injEq] at hk; omega)
      obtain ⟨⟨u00, u01, u02, u03, u04, u05, u06⟩, v00, v01, v02, v03, v04, v05, v06⟩ := seven_at hh0
      obtain ⟨⟨u10, u11, u12, u13, u14, u15, u16⟩, v10, v11, v12, v13, v14, v15, v16⟩ := seven_at hh1
      obtain ⟨⟨r0, r1, r2, r3, r4, r5, r6⟩, f0, f1, f2, f3, f4, f5, f6⟩ := seven_at hrx
      have HR := Lib.hid hrx
      have HNx := Lib.hid hNx
      have HBx := Lib.hid hBx
      clear hN3 hx3 hr3 hrx hNx hBx hh0 hg0 hh1 hg1
      go_wp2_with fail
      have hf := set7 (a' := .bool x0) (b' := .bool false) (c' := .bool true) (d' := .bool x3) (e' := .bool x4) (f' := .bool nb) (g' := .slice p l c) HR.out
      have hgr := grown7 ((w3.setCell ⟨w.heap.size, 1, none⟩ (.bool false)).setCell ⟨w.heap.size, 2, none⟩ (.bool true)) (w.heap.size + 1) (.bool x0) (.bool false) (.bool true) (.bool x3) (.bool x4) (.bool nb) (.slice p l c)
      have hn := HNx.out.grown HR.out (by decide) hgr
      have hbl := HBx.out.grown hgr HBx.out.size (fun k hk => by simp only [Option.some.injEq] at hk; omega)
      generalize (((((((((w3.setCell ⟨w.heap.size, 1, none⟩ (.bool false)).setCell ⟨w.heap.size, 2, none⟩ (.bool true)).setCell ⟨w.heap.size + 1, 0, none⟩ (.bool x0)).setCell ⟨w.heap.size + 1, 1, none⟩ (.bool false)).setCell ⟨w.heap.size + 1, 2, none⟩ (.bool true)).setCell ⟨w.heap.size + 1, 3, none⟩ (.bool x3)).setCell ⟨w.heap.size + 1, 4, none⟩ (.bool x4)).setCell ⟨w.heap.size + 1, 5, none⟩ (.bool nb)).setCell ⟨w.heap.size + 1, 6, none⟩ (.slice p l c)) = wz at *
      obtain ⟨⟨k0, k1, k2, k3, k4, k5, k6⟩, -⟩ := seven_at hf
      exact bodyPost_ret (v := .tuple #[.agg #[.bool x0, .bool false, .bool true, .bool x3, .bool x4, .bool nb, .slice p l c], .bool true]) (by simp [results, Tryz.results108, go_sem, k0, k1, k2, k3, k4, k5, k6]) rfl ⟨⟨_, rfl, nb, p, l, c, by rw [bitB_or, bitB_or, bitB_or, bitB_or, bitB_or, HXX.out.1, HXX.out.2.1, HXX.out.2.2.1, HXX.out.2.2.2.1, HXX.out.2.2.2.2]; simp [bits4], hn, HGr.out⟩, hbl⟩
    · have hh0 : (w3.setCell ⟨w.heap.size, 1, none⟩ (.bool false)).heap[w.heap.size]? = some (.cells #[.bool x0, .bool false, .bool true, .bool x3, .bool x4, .bool nb, .slice p l c] 95 (0, 0)) := by simp [World.setCell, Array.getElem?_modify, hx3]
      have hg0 := grown_set w3 (w.heap.size) 1 (.bool false)
      have hh1 : ((w3.setCell ⟨w.heap.size, 1, none⟩ (.bool false)).setCell ⟨w.heap.size, 2, none⟩ (.bool true)).heap[w.heap.size]? = some (.cells #[.bool x0, .bool false, .bool true, .bool x3, .bool x4, .bool nb, .slice p l c] 95 (0, 0)) := by simp [World.setCell, Array.getElem?_modify, hx3]
      have hg1 := grown_then hg0 (grown_set (w3.setCell ⟨w.heap.size, 1, none⟩ (.bool false)) (w.heap.size) 2 (.bool true))
      have hrx : ((w3.setCell ⟨w.heap.size, 1, none⟩ (.bool false)).setCell ⟨w.heap.size, 2, none⟩ (.bool true)).heap[w.heap.size + 1]? = _ := (hg1.block _ (Array.getElem?_eq_some_iff.1 hr3).1 (by simp)).trans hr3
      have hNx := hN3.grown hx3 (by decide) hg1
      have hBx := HB3.out.grown hg1 HB3.out.size (fun k hk => by simp only [Option.some.injEq] at hk; omega)
      obtain ⟨⟨u00, u01, u02, u03, u04, u05, u06⟩, v00, v01, v02, v03, v04, v05, v06⟩ := seven_at hh0
      obtain ⟨⟨u10, u11, u12, u13, u14, u15, u16⟩, v10, v11, v12, v13, v14, v15, v16⟩ := seven_at hh1
      obtain ⟨⟨r0, r1, r2, r3, r4, r5, r6⟩, f0, f1, f2, f3, f4, f5, f6⟩ := seven_at hrx
      have HR := Lib.hid hrx
      have HNx := Lib.hid hNx
      have HBx := Lib.hid hBx
      clear hN3 hx3 hr3 hrx hNx hBx hh0 hg0 hh1 hg1
      go_wp2_with fail
      have hf := set7 (a' := .bool x0) (b' := .bool false) (c' := .bool true) (d' := .bool x3) (e' := .bool x4) (f' := .bool nb) (g' := .slice p l c) HR.out
      have hgr := grown7 ((w3.setCell ⟨w.heap.size, 1, none⟩ (.bool false)).setCell ⟨w.heap.size, 2, none⟩ (.bool true)) (w.heap.size + 1) (.bool x0) (.bool false) (.bool true) (.bool x3) (.bool x4) (.bool nb) (.slice p l c)
      have hn := HNx.out.grown HR.out (by decide) hgr
      have hbl := HBx.out.grown hgr HBx.out.size (fun k hk => by simp only [Option.some.injEq] at hk; omega)
      generalize (((((((((w3.setCell ⟨w.heap.size, 1, none⟩ (.bool false)).setCell ⟨w.heap.size, 2, none⟩ (.bool true)).setCell ⟨w.heap.size + 1, 0, none⟩ (.bool x0)).setCell ⟨w.heap.size + 1, 1, none⟩ (.bool false)).setCell ⟨w.heap.size + 1, 2, none⟩ (.bool true)).setCell ⟨w.heap.size + 1, 3, none⟩ (.bool x3)).setCell ⟨w.heap.size + 1, 4, none⟩ (.bool x4)).setCell ⟨w.heap.size + 1, 5, none⟩ (.bool nb)).setCell ⟨w.heap.size + 1, 6, none⟩ (.slice p l c)) = wz at *
      obtain ⟨⟨k0, k1, k2, k3, k4, k5, k6⟩, -⟩ := seven_at hf
      exact bodyPost_ret (v := .tuple #[.agg #[.bool x0, .bool false, .bool true, .bool x3, .bool x4, .bool nb, .slice p l c], .bool true]) (by simp [results, Tryz.results108, go_sem, k0, k1, k2, k3, k4, k5, k6]) rfl ⟨⟨_, rfl, nb, p, l, c, by rw [bitB_or, bitB_or, bitB_or, bitB_or, bitB_or, HXX.out.1, HXX.out.2.1, HXX.out.2.2.1, HXX.out.2.2.2.1, HXX.out.2.2.2.2]; simp [bits4], hn, HGr.out⟩, hbl⟩
  · cases x2
    · have hh0 : (w3.setCell ⟨w.heap.size, 1, none⟩ (.bool true)).heap[w.heap.size]? = some (.cells #[.bool x0, .bool true, .bool false, .bool x3, .bool x4, .bool nb, .slice p l c] 95 (0, 0)) := by simp [World.setCell, Array.getElem?_modify, hx3]
      have hg0 := grown_set w3 (w.heap.size) 1 (.bool true)
      have hh1 : ((w3.setCell ⟨w.heap.size, 1, none⟩ (.bool true)).setCell ⟨w.heap.size, 2, none⟩ (.bool true)).heap[w.heap.size]? = some (.cells #[.bool x0, .bool true, .bool true, .bool x3, .bool x4, .bool nb, .slice p l c] 95 (0, 0)) := by simp [World.setCell, Array.getElem?_modify, hx3]
      have hg1 := grown_then hg0 (grown_set (w3.setCell ⟨w.heap.size, 1, none⟩ (.bool true)) (w.heap.size) 2 (.bool true))
      have hrx : ((w3.setCell ⟨w.heap.size, 1, none⟩ (.bool true)).setCell ⟨w.heap.size, 2, none⟩ (.bool true)).heap[w.heap.size + 1]? = _ := (hg1.block _ (Array.getElem?_eq_some_iff.1 hr3).1 (by simp)).trans hr3
      have hNx := hN3.grown hx3 (by decide) hg1
      have hBx := HB3.out.grown hg1 HB3.out.size (fun k hk => by simp only [Option.some.injEq] at hk; omega)
      obtain ⟨⟨u00, u01, u02, u03, u04, u05, u06⟩, v00, v01, v02, v03, v04, v05, v06⟩ := seven_at hh0
      obtain ⟨⟨u10, u11, u12, u13, u14, u15, u16⟩, v10, v11, v12, v13, v14, v15, v16⟩ := seven_at hh1
      obtain ⟨⟨r0, r1, r2, r3, r4, r5, r6⟩, f0, f1, f2, f3, f4, f5, f6⟩ := seven_at hrx
      have HR := Lib.hid hrx
      have HNx := Lib.hid hNx
      have HBx := Lib.hid hBx
      clear hN3 hx3 hr3 hrx hNx hBx hh0 hg0 hh1 hg1
      go_wp2_with fail
      have hf := set7 (a' := .bool x0) (b' := .bool true) (c' := .bool true) (d' := .bool x3) (e' := .bool x4) (f' := .bool nb) (g' := .slice p l c) HR.out
      have hgr := grown7 ((w3.setCell ⟨w.heap.size, 1, none⟩ (.bool true)).setCell ⟨w.heap.size, 2, none⟩ (.bool true)) (w.heap.size + 1) (.bool x0) (.bool true) (.bool true) (.bool x3) (.bool x4) (.bool nb) (.slice p l c)
      have hn := HNx.out.grown HR.out (by decide) hgr
      have hbl := HBx.out.grown hgr HBx.out.size (fun k hk => by simp only [Option.some.injEq] at hk; omega)
      generalize (((((((((w3.setCell ⟨w.heap.size, 1, none⟩ (.bool true)).setCell ⟨w.heap.size, 2, none⟩ (.bool true)).setCell ⟨w.heap.size + 1, 0, none⟩ (.bool x0)).setCell ⟨w.heap.size + 1, 1, none⟩ (.bool true)).setCell ⟨w.heap.size + 1, 2, none⟩ (.bool true)).setCell ⟨w.heap.size + 1, 3, none⟩ (.bool x3)).setCell ⟨w.heap.size + 1, 4, none⟩ (.bool x4)).setCell ⟨w.heap.size + 1, 5, none⟩ (.bool nb)).setCell ⟨w.heap.size + 1, 6, none⟩ (.slice p l c)) = wz at *
      obtain ⟨⟨k0, k1, k2, k3, k4, k5, k6⟩, -⟩ := seven_at hf
      exact bodyPost_ret (v := .tuple #[.agg #[.bool x0, .bool true, .bool true, .bool x3, .bool x4, .bool nb, .slice p l c], .bool true]) (by simp [results, Tryz.results108, go_sem, k0, k1, k2, k3, k4, k5, k6]) rfl ⟨⟨_, rfl, nb, p, l, c, by rw [bitB_or, bitB_or, bitB_or, bitB_or, bitB_or, HXX.out.1, HXX.out.2.1, HXX.out.2.2.1, HXX.out.2.2.2.1, HXX.out.2.2.2.2]; simp [bits4], hn, HGr.out⟩, hbl⟩
    · have hh0 : (w3.setCell ⟨w.heap.size, 1, none⟩ (.bool true)).heap[w.heap.size]? = some (.cells #[.bool x0, .bool true, .bool true, .bool x3, .bool x4, .bool nb, .slice p l c] 95 (0, 0)) := by simp [World.setCell, Array.getElem?_modify, hx3]
      have hg0 := grown_set w3 (w.heap.size) 1 (.bool true)
      have hh1 : ((w3.setCell ⟨w.heap.size, 1, none⟩ (.bool true)).setCell ⟨w.heap.size, 2, none⟩ (.bool true)).heap[w.heap.size]? = some (.cells #[.bool x0, .bool true, .bool true, .bool x3, .bool x4, .bool nb, .slice p l c] 95 (0, 0)) := by simp [World.setCell, Array.getElem?_modify, hx3]
      have hg1 := grown_then hg0 (grown_set (w3.setCell ⟨w.heap.size, 1, none⟩ (.bool true)) (w.heap.size) 2 (.bool true))
      have hrx : ((w3.setCell ⟨w.heap.size, 1, none⟩ (.bool true)).setCell ⟨w.heap.size, 2, none⟩ (.bool true)).heap[w.heap.size + 1]? = _ := (hg1.block _ (Array.getElem?_eq_some_iff.1 hr3).1 (by simp)).trans hr3
      have hNx := hN3.grown hx3 (by decide) hg1
      have hBx := HB3.out.grown hg1 HB3.out.size (fun k hk => by simp only [Option.some.injEq] at hk; omega)
      obtain ⟨⟨u00, u01, u02, u03, u04, u05, u06⟩, v00, v01, v02, v03, v04, v05, v06⟩ := seven_at hh0
      obtain ⟨⟨u10, u11, u12, u13, u14, u15, u16⟩, v10, v11, v12, v13, v14, v15, v16⟩ := seven_at hh1
      obtain ⟨⟨r0, r1, r2, r3, r4, r5, r6⟩, f0, f1, f2, f3, f4, f5, f6⟩ := seven_at hrx
      have HR := Lib.hid hrx
      have HNx := Lib.hid hNx
      have HBx := Lib.hid hBx
      clear hN3 hx3 hr3 hrx hNx hBx hh0 hg0 hh1 hg1
      go_wp2_with fail
      have hf := set7 (a' := .bool x0) (b' := .bool true) (c' := .bool true) (d' := .bool x3) (e' := .bool x4) (f' := .bool nb) (g' := .slice p l c) HR.out
      have hgr := grown7 ((w3.setCell ⟨w.heap.size, 1, none⟩ (.bool true)).setCell ⟨w.heap.size, 2, none⟩ (.bool true)) (w.heap.size + 1) (.bool x0) (.bool true) (.bool true) (.bool x3) (.bool x4) (.bool nb) (.slice p l c)
      have hn := HNx.out.grown HR.out (by decide) hgr
      have hbl := HBx.out.grown hgr HBx.out.size (fun k hk => by simp only [Option.some.injEq] at hk; omega)
      generalize (((((((((w3.setCell ⟨w.heap.size, 1, none⟩ (.bool true)).setCell ⟨w.heap.size, 2, none⟩ (.bool true)).setCell ⟨w.heap.size + 1, 0, none⟩ (.bool x0)).setCell ⟨w.heap.size + 1, 1, none⟩ (.bool true)).setCell ⟨w.heap.size + 1, 2, none⟩ (.bool true)).setCell ⟨w.heap.size + 1, 3, none⟩ (.bool x3)).setCell ⟨w.heap.size + 1, 4, none⟩ (.bool x4)).setCell ⟨w.heap.size + 1, 5, none⟩ (.bool nb)).setCell ⟨w.heap.size + 1, 6, none⟩ (.slice p l c)) = wz at *
      obtain ⟨⟨k0, k1, k2, k3, k4, k5, k6⟩, -⟩ := seven_at hf
      exact bodyPost_ret (v := .tuple #[.agg #[.bool x0, .bool true, .bool true, .bool x3, .bool x4, .bool nb, .slice p l c], .bool true]) (by simp [results, Tryz.results108, go_sem, k0, k1, k2, k3, k4, k5, k6]) rfl ⟨⟨_, rfl, nb, p, l, c, by rw [bitB_or, bitB_or, bitB_or, bitB_or, bitB_or, HXX.out.1, HXX.out.2.1, HXX.out.2.2.1, HXX.out.2.2.2.1, HXX.out.2.2.2.2]; simp [bits4], hn, HGr.out⟩, hbl⟩
set_option maxHeartbeats 8000000 in
theorem radd_zero_pos (w : World) (v : Value) (f x : Nat) (s : Int) (h : SumV w v f s) (hx : W64 x) (hk : kindI x = 0) (hb : belowB x = false) :
    Calls Tryz.prog 108 #[v, .float .f64 x] w (RJoinP (f ||| 16) s true w) := by
  obtain ⟨nb, p, l, c, rfl, hn, hg⟩ := h
  have HS := Lib.hid (fun w1 => rsplit_other x w1 hx (by omega))
  have HK := Lib.hid (fun w1 => rkind_any x w1 hx)
  rw [hk] at HK
  rw [hb] at HS
  have HGr := Lib.hid (hg.flag (g := 16) (by decide))
  have HV := Lib.hid (fun w1 (hb : Below w.heap.size w w1) => hn.below hb)
  generalize hx0 : bitB f 0 = x0 at *
  generalize hx1 : bitB f 1 = x1 at *
  generalize hx2 : bitB f 2 = x2 at *
  generalize hx3 : bitB f 3 = x3 at *
  generalize hx4 : bitB f 4 = x4 at *
  have HXX := Lib.hid (And.intro hx0 (And.intro hx1 (And.intro hx2 (And.intro hx3 hx4))))
  have hX := two_blocks w (.cells #[.bool x0, .bool x1, .bool x2, .bool x3, .bool x4, .bool nb, .slice p l c] 95) (.cells #[.bool false, .bool false, .bool false, .bool false, .bool false, .bool false, .slice none 0 0] 95)
  have hB := below_two w (.cells #[.bool x0, .bool x1, .bool x2, .bool x3, .bool x4, .bool nb, .slice p l c] 95) (.cells #[.bool false, .bool false, .bool false, .bool false, .bool false, .bool false, .slice none 0 0] 95)
  generalize hX0 : ((w.alloc (.cells #[.bool x0, .bool x1, .bool x2, .bool x3, .bool x4, .bool nb, .slice p l c] 95)).alloc (.cells #[.bool false, .bool false, .bool false, .bool false, .bool false, .bool false, .slice none 0 0] 95)) = W0 at *
  have HX := Lib.hid hX
  have HB := Lib.hid hB
  have HX0 := Lib.hid hX0
  unfold RJoinP
  clear hn hg hx hk hb hX hB hx0 hx1 hx2 hx3 hx4 hX0
  go_enter Tryz.func108, Tryz.ntmps108
  go_wp2_with fail
  rw [HX0.out]
  refine (HS.out W0).mono ?_; rintro e w2 ⟨rfl, hd⟩
  have hb2 : Below W0.heap.size W0 w2 := by first | exact hd.below | (subst hd; exact Below.refl _ _)
  have HB2 := Lib.hid (below_then HB.out hb2)
  have HX2 := Lib.hid (And.intro (heap_then HX.out.1 hb2) (heap_then HX.out.2 hb2))
  clear hd hb2 HS HB HX HX0
  go_wp2_with fail
  refine (HK.out w2).mono ?_; rintro e w3 ⟨rfl, hd⟩
  have hb3 : Below w2.heap.size w2 w3 := by obtain ⟨n, rfl⟩ := hd; exact below_drewN (Below.refl _ _) n
  have HB3 := Lib.hid (below_then HB2.out hb3)
  have hx3 := heap_then HX2.out.1 hb3
  have hr3 := heap_then HX2.out.2 hb3
  have hN3 := HV.out w3 HB3.out
  obtain ⟨⟨q0, q1, q2, q3, q4, q5, q6⟩, z0, z1, z2, z3, z4, z5, z6⟩ := seven_at hx3
  clear hd hb3 HK HB2 HX2 HV
  cases x3
  · cases x4
    · have hh0 : (w3.setCell ⟨w.heap.size, 3, none⟩ (.bool false)).heap[w.heap.size]? = some (.cells #[.bool x0, .bool x1, .bool x2, .bool false, .bool false, .bool nb, .slice p l c] 95 (0, 0)) := by simp [World.setCell, Array.getElem?_modify, hx3]
      have hg0 := grown_set w3 (w.heap.size) 3 (.bool false)
      have hh1 : ((w3.setCell ⟨w.heap.size, 3, none⟩ (.bool false)).setCell ⟨w.heap.size, 4, none⟩ (.bool true)).heap[w.heap.size]? = some (.cells #[.bool x0, .bool x1, .bool x2, .bool false, .bool true, .bool nb, .slice p l c] 95 (0, 0)) := by simp [World.setCell, Array.getElem?_modify, hx3]
      have hg1 := grown_then hg0 (grown_set (w3.setCell ⟨w.heap.size, 3, none⟩ (.bool false)) (w.heap.size) 4 (.bool true))
      have hrx : ((w3.setCell ⟨w.heap.size, 3, none⟩ (.bool false)).setCell ⟨w.heap.size, 4, none⟩ (.bool true)).heap[w.heap.size + 1]? = _ := (hg1.block _ (Array.getElem?_eq_some_iff.1 hr3).1 (by simp)).trans hr3
      have hNx := hN3.grown hx3 (by decide) hg1
      have hBx := HB3.out.grown hg1 HB3.out.size (fun k hk => by simp only [Option.some.injEq] at hk; omega)
      obtain ⟨⟨u00, u01, u02, u03, u04, u05, u06⟩, v00, v01, v02, v03, v04, v05, v06⟩ := seven_at hh0
      obtain ⟨⟨u10, u11, u12, u13, u14, u15, u16⟩, v10, v11, v12, v13, v14, v15, v16⟩ := seven_at hh1
      obtain ⟨⟨r0, r1, r2, r3, r4, r5, r6⟩, f0, f1, f2, f3, f4, f5, f6⟩ := seven_at hrx
      have HR := Lib.hid hrx
      have HNx := Lib.hid hNx
      have HBx := Lib.hid hBx
      clear hN3 hx3 hr3 hrx hNx hBx hh0 hg0 hh1 hg1
      go_wp2_with fail
      have hf := set7 (a' := .bool x0) (b' := .bool x1) (c' := .bool x2) (d' := .bool false) (e' := .bool true) (f' := .bool nb) (g' := .slice p l c) HR.out
      have hgr := grown7 ((w3.setCell ⟨w.heap.size, 3, none⟩ (.bool false)).setCell ⟨w.heap.size, 4, none⟩ (.bool true)) (w.heap.size + 1) (.bool x0) (.bool x1) (.bool x2) (.bool false) (.bool true) (.bool nb) (.slice p l c)
      have hn := HNx.out.grown HR.out (by decide) hgr
      have hbl := HBx.out.grown hgr HBx.out.size (fun k hk => by simp only [Option.some.injEq] at hk; omega)
      generalize (((((((((w3.setCell ⟨w.heap.size, 3, none⟩ (.bool false)).setCell ⟨w.heap.size, 4, none⟩ (.bool true)).setCell ⟨w.heap.size + 1, 0, none⟩ (.bool x0)).setCell ⟨w.heap.size + 1, 1, none⟩ (.bool x1)).setCell ⟨w.heap.size + 1, 2, none⟩ (.bool x2)).setCell ⟨w.heap.size + 1, 3, none⟩ (.bool false)).setCell ⟨w.heap.size + 1, 4, none⟩ (.bool true)).setCell ⟨w.heap.size + 1, 5, none⟩ (.bool nb)).setCell ⟨w.heap.size + 1, 6, none⟩ (.slice p l c)) = wz at *
      obtain ⟨⟨k0, k1, k2, k3, k4, k5, k6⟩, -⟩ := seven_at hf
      exact bodyPost_ret (v := .tuple #[.agg #[.bool x0, .bool x1, .bool x2, .bool false, .bool true, .bool nb, .slice p l c], .bool true]) (by simp [results, Tryz.results108, go_sem, k0, k1, k2, k3, k4, k5, k6]) rfl ⟨⟨_, rfl, nb, p, l, c, by rw [bitB_or, bitB_or, bitB_or, bitB_or, bitB_or, HXX.out.1, HXX.out.2.1, HXX.out.2.2.1, HXX.out.2.2.2.1, HXX.out.2.2.2.2]; simp [bits16], hn, HGr.out⟩, hbl⟩
    · have hh0 : (w3.setCell ⟨w.heap.size, 3, none⟩ (.bool false)).heap[w.heap.size]? = some (.cells #[.bool x0, .bool x1, .bool x2, .bool false, .bool true, .bool nb, .slice p l c] 95 (0, 0)) := by simp [World.setCell, Array.getElem?_modify, hx3]
      have hg0 := grown_set w3 (w.heap.size) 3 (.bool false)
      have hh1 : ((w3.setCell ⟨w.heap.size, 3, none⟩ (.bool false)).setCell ⟨w.heap.size, 4, none⟩ (.bool true)).heap[w.heap.size]? = some (.cells #[.bool x0, .bool x1, .bool x2, .bool false, .bool true, .bool nb, .slice p l c] 95 (0, 0)) := by simp [World.setCell, Array.getElem?_modify, hx3]
      have hg1 := grown_then hg0 (grown_set (w3.setCell ⟨w.heap.size, 3, none⟩ (.bool false)) (w.heap.size) 4 (.bool true))
      have hrx : ((w3.setCell ⟨w.heap.size, 3, none⟩ (.bool false)).setCell ⟨w.heap.size, 4, none⟩ (.bool true)).heap[w.heap.size + 1]? = _ := (hg1.block _ (Array.getElem?_eq_some_iff.1 hr3).1 (by simp)).trans hr3
      have hNx := hN3.grown hx3 (by decide) hg1
      have hBx := HB3.out.grown hg1 HB3.out.size (fun k hk => by simp only [Option.some.injEq] at hk; omega)
      obtain ⟨⟨u00, u01, u02, u03, u04, u05, u06⟩, v00, v01, v02, v03, v04, v05, v06⟩ := seven_at hh0
      obtain ⟨⟨u10, u11, u12, u13, u14, u15, u16⟩, v10, v11, v12, v13, v14, v15, v16⟩ := seven_at hh1
      obtain ⟨⟨r0, r1, r2, r3, r4, r5, r6⟩, f0, f1, f2, f3, f4, f5, f6⟩ := seven_at hrx
      have HR := Lib.hid hrx
      have HNx := Lib.hid hNx
      have HBx := Lib.hid hBx
      clear hN3 hx3 hr3 hrx hNx hBx hh0 hg0 hh1 hg1
      go_wp2_with fail
      have hf := set7 (a' := .bool x0) (b' := .bool x1) (c' := .bool x2) (d' := .bool false) (e' := .bool true) (f' := .bool nb) (g' := .slice p l c) HR.out
      have hgr := grown7 ((w3.setCell ⟨w.heap.size, 3, none⟩ (.bool false)).setCell ⟨w.heap.size, 4, none⟩ (.bool true)) (w.heap.size + 1) (.bool x0) (.bool x1) (.bool x2) (.bool false) (.bool true) (.bool nb) (.slice p l c)
      have hn := HNx.out.grown HR.out (by decide) hgr
      have hbl := HBx.out.grown hgr HBx.out.size (fun k hk => by simp only [Option.some.injEq] at hk; omega)
      generalize (((((((((w3.setCell ⟨w.heap.size, 3, none⟩ (.bool false)).setCell ⟨w.heap.size, 4, none⟩ (.bool true)).setCell ⟨w.heap.size + 1, 0, none⟩ (.bool x0)).setCell ⟨w.heap.size + 1, 1, none⟩ (.bool x1)).setCell ⟨w.heap.size + 1, 2, none⟩ (.bool x2)).setCell ⟨w.heap.size + 1, 3, none⟩ (.bool false)).setCell ⟨w.heap.size + 1, 4, none⟩ (.bool true)).setCell ⟨w.heap.size + 1, 5, none⟩ (.bool nb)).setCell ⟨w.heap.size + 1, 6, none⟩ (.slice p l c)) = wz at *
      obtain ⟨⟨k0, k1, k2, k3, k4, k5, k6⟩, -⟩ := seven_at hf
      exact bodyPost_ret (v := .tuple #[.agg #[.bool x0, .bool x1, .bool x2, .bool false, .bool true, .bool nb, .slice p l c], .bool true]) (by simp [results, Tryz.results108, go_sem, k0, k1, k2, k3, k4, k5, k6]) rfl ⟨⟨_, rfl, nb, p, l, c, by rw [bitB_or, bitB_or, bitB_or, bitB_or, bitB_or, HXX.out.1, HXX.out.2.1, HXX.out.2.2.1, HXX.out.2.2.2.1, HXX.out.2.2.2.2]; simp [bits16], hn, HGr.out⟩, hbl⟩
  · cases x4
    · have hh0 : (w3.setCell ⟨w.heap.size, 3, none⟩ (.bool true)).heap[w.heap.size]? = some (.cells #[.bool x0, .bool x1, .bool x2, .bool true, .bool false, .bool nb, .slice p l c] 95 (0, 0)) := by simp [World.setCell, Array.getElem?_modify, hx3]
      have hg0 := grown_set w3 (w.heap.size) 3 (.bool true)
      have hh1 : ((w3.setCell ⟨w.heap.size, 3, none⟩ (.bool true)).setCell ⟨w.heap.size, 4, none⟩ (.bool true)).heap[w.heap.size]? = some (.cells #[.bool x0, .bool x1, .bool x2, .bool true, .bool true, .bool nb, .slice p l c] 95 (0, 0)) := by simp [World.setCell, Array.getElem?_modify, hx3]
      have hg1 := grown_then hg0 (grown_set (w3.setCell ⟨w.heap.size, 3, none⟩ (.bool true)) (w.heap.size) 4 (.bool true))
      have hrx : ((w3.setCell ⟨w.heap.size, 3, none⟩ (.bool true)).setCell ⟨w.heap.size, 4, none⟩ (.bool true)).heap[w.heap.size + 1]? = _ := (hg1.block _ (Array.getElem?_eq_some_iff.1 hr3).1 (by simp)).trans hr3
      have hNx := hN3.grown hx3 (by decide) hg1
      have hBx := HB3.out.grown hg1 HB3.out.size (fun k hk => by simp only [Option.some.injEq] at hk; omega)
      obtain ⟨⟨u00, u01, u02, u03, u04, u05, u06⟩, v00, v01, v02, v03, v04, v05, v06⟩ := seven_at hh0
      obtain ⟨⟨u10, u11, u12, u13, u14, u15, u16⟩, v10, v11, v12, v13, v14, v15, v16⟩ := seven_at hh1
      obtain ⟨⟨r0, r1, r2, r3, r4, r5, r6⟩, f0, f1, f2, f3, f4, f5, f6⟩ := seven_at hrx
      have HR := Lib.hid hrx
      have HNx := Lib.hid hNx
      have HBx := Lib.hid hBx
      clear hN3 hx3 hr3 hrx hNx hBx hh0 hg0 hh1 hg1
      go_wp2_with fail
      have hf := set7 (a' := .bool x0) (b' := .bool x1) (c' := .bool x2) (d' := .bool true) (e' := .bool true) (f' := .bool nb) (g' := .slice p l c) HR.out
      have hgr := grown7 ((w3.setCell ⟨w.heap.size, 3, none⟩ (.bool true)).setCell ⟨w.heap.size, 4, none⟩ (.bool true)) (w.heap.size + 1) (.bool x0) (.bool x1) (.bool x2) (.bool true) (.bool true) (.bool nb) (.slice p l c)
      have hn := HNx.out.grown HR.out (by decide) hgr
      have hbl := HBx.out.grown hgr HBx.out.size (fun k hk => by simp only [Option.some.injEq] at hk; omega)
      generalize (((((((((w3.setCell ⟨w.heap.size, 3, none⟩ (.bool true)).setCell ⟨w.heap.size, 4, none⟩ (.bool true)).setCell ⟨w.heap.size + 1, 0, none⟩ (.bool x0)).setCell ⟨w.heap.size + 1, 1, none⟩ (.bool x1)).setCell ⟨w.heap.size + 1, 2, none⟩ (.bool x2)).setCell ⟨w.heap.size + 1, 3, none⟩ (.bool true)).setCell ⟨w.heap.size + 1, 4, none⟩ (.bool true)).setCell ⟨w.heap.size + 1, 5, none⟩ (.bool nb)).setCell ⟨w.heap.size + 1, 6, none⟩ (.slice p l c)) = wz at *
      obtain ⟨⟨k0, k1, k2, k3, k4, k5, k6⟩, -⟩ := seven_at hf
      exact bodyPost_ret (v := .tuple #[.agg #[.bool x0, .bool x1, .bool x2, .bool true, .bool true, .bool nb, .slice p l c], .bool true]) (by simp [results, Tryz.results108, go_sem, k0, k1, k2, k3, k4, k5, k6]) rfl ⟨⟨_, rfl, nb, p, l, c, by rw [bitB_or, bitB_or, bitB_or, bitB_or, bitB_or, HXX.out.1, HXX.out.2.1, HXX.out.2.2.1, HXX.out.2.2.2.1, HXX.out.2.2.2.2]; simp [bits16], hn, HGr.out⟩, hbl⟩
    · have hh0 : (w3.setCell ⟨w.heap.size, 3, none⟩ (.bool true)).heap[w.heap.size]? = some (.cells #[.bool x0, .bool x1, .bool x2, .bool true, .bool true, .bool nb, .slice p l c] 95 (0, 0)) := by simp [World.setCell, Array.getElem?_modify, hx3]
      have hg0 := grown_set w3 (w.heap.size) 3 (.bool true)
      have hh1 : ((w3.setCell ⟨w.heap.size, 3, none⟩ (.bool true)).setCell ⟨w.heap.size, 4, none⟩ (.bool true)).heap[w.heap.size]? = some (.cells #[.bool x0, .bool x1, .bool x2, .bool true, .bool true, .bool nb, .slice p l c] 95 (0, 0)) := by simp [World.setCell, Array.getElem?_modify, hx3]
      have hg1 := grown_then hg0 (grown_set (w3.setCell ⟨w.heap.size, 3, none⟩ (.bool true)) (w.heap.size) 4 (.bool true))
      have hrx : ((w3.setCell ⟨w.heap.size, 3, none⟩ (.bool true)).setCell ⟨w.heap.size, 4, none⟩ (.bool true)).heap[w.heap.size + 1]? = _ := (hg1.block _ (Array.getElem?_eq_some_iff.1 hr3).1 (by simp)).trans hr3
      have hNx := hN3.grown hx3 (by decide) hg1
      have hBx := HB3.out.grown hg1 HB3.out.size (fun k hk => by simp only [Option.some.injEq] at hk; omega)
      obtain ⟨⟨u00, u01, u02, u03, u04, u05, u06⟩, v00, v01, v02, v03, v04, v05, v06⟩ := seven_at hh0
      obtain ⟨⟨u10, u11, u12, u13, u14, u15, u16⟩, v10, v11, v12, v13, v14, v15, v16⟩ := seven_at hh1
      obtain ⟨⟨r0, r1, r2, r3, r4, r5, r6⟩, f0, f1, f2, f3, f4, f5, f6⟩ := seven_at hrx
      have HR := Lib.hid hrx
      have HNx := Lib.hid hNx
      have HBx := Lib.hid hBx
      clear hN3 hx3 hr3 hrx hNx hBx hh0 hg0 hh1 hg1
      go_wp2_with fail
      have hf := set7 (a' := .bool x0) (b' := .bool x1) (c' := .bool x2) (d' := .bool true) (e' := .bool true) (f' := .bool nb) (g' := .slice p l c) HR.out
      have hgr := grown7 ((w3.setCell ⟨w.heap.size, 3, none⟩ (.bool true)).setCell ⟨w.heap.size, 4, none⟩ (.bool true)) (w.heap.size + 1) (.bool x0) (.bool x1) (.bool x2) (.bool true) (.bool true) (.bool nb) (.slice p l c)
      have hn := HNx.out.grown HR.out (by decide) hgr
      have hbl := HBx.out.grown hgr HBx.out.size (fun k hk => by simp only [Option.some.injEq] at hk; omega)
      generalize (((((((((w3.setCell ⟨w.heap.size, 3, none⟩ (.bool true)).setCell ⟨w.heap.size, 4, none⟩ (.bool true)).setCell ⟨w.heap.size + 1, 0, none⟩ (.bool x0)).setCell ⟨w.heap.size + 1, 1, none⟩ (.bool x1)).setCell ⟨w.heap.size + 1, 2, none⟩ (.bool x2)).setCell ⟨w.heap.size + 1, 3, none⟩ (.bool true)).setCell ⟨w.heap.size + 1, 4, none⟩ (.bool true)).setCell ⟨w.heap.size + 1, 5, none⟩ (.bool nb)).setCell ⟨w.heap.size + 1, 6, none⟩ (.slice p l c)) = wz at *
      obtain ⟨⟨k0, k1, k2, k3, k4, k5, k6⟩, -⟩ := seven_at hf
      exact bodyPost_ret (v := .tuple #[.agg #[.bool x0, .bool x1, .bool x2, .bool true, .bool true, .bool nb, .slice p l c], .bool true]) (by simp [results, Tryz.results108, go_sem, k0, k1, k2, k3, k4, k5, k6]) rfl ⟨⟨_, rfl, nb, p, l, c, by rw [bitB_or, bitB_or, bitB_or, bitB_or, bitB_or, HXX.out.1, HXX.out.2.1, HXX.out.2.2.1, HXX.out.2.2.2.1, HXX.out.2.2.2.2]; simp [bits16], hn, HGr.out⟩, hbl⟩
set_option maxHeartbeats 8000000 in
theorem radd_zero_neg (w : World) (v : Value) (f x : Nat) (s : Int) (h : SumV w v f s) (hx : W64 x) (hk : kindI x = 0) (hb : belowB x = true) :
    Calls Tryz.prog 108 #[v, .float .f64 x] w (RJoinP (f ||| 8) s true w) := by
  obtain ⟨nb, p, l, c, rfl, hn, hg⟩ := h
  have HS := Lib.hid (fun w1 => rsplit_other x w1 hx (by omega))
  have HK := Lib.hid (fun w1 => rkind_any x w1 hx)
  rw [hk] at HK
  rw [hb] at HS
  have HGr := Lib.hid (hg.flag (g := 8) (by decide))
  have HV := Lib.hid (fun w1 (hb : Below w.heap.size w w1) => hn.below hb)
  generalize hx0 : bitB f 0 = x0 at *
  generalize hx1 : bitB f 1 = x1 at *
  generalize hx2 : bitB f 2 = x2 at *
  generalize hx3 : bitB f 3 = x3 at *
  generalize hx4 : bitB f 4 = x4 at *
  have HXX := Lib.hid (And.intro hx0 (And.intro hx1 (And.intro hx2 (And.intro hx3 hx4))))
  have hX := two_blocks w (.cells #[.bool x0, .bool x1, .bool x2, .bool x3, .bool x4, .bool nb, .slice p l c] 95) (.cells #[.bool false, .bool false, .bool false, .bool false, .bool false, .bool false, .slice none 0 0] 95)
  have hB := below_two w (.cells #[.bool x0, .bool x1, .bool x2, .bool x3, .bool x4, .bool nb, .slice p l c] 95) (.cells #[.bool false, .bool false, .bool false, .bool false, .bool false, .bool false, .slice none 0 0] 95)
  generalize hX0 : ((w.alloc (.cells #[.bool x0, .bool x1, .bool x2, .bool x3, .bool x4, .bool nb, .slice p l c] 95)).alloc (.cells #[.bool false, .bool false, .bool false, .bool false, .bool false, .bool false, .slice none 0 0] 95)) = W0 at *
  have HX := Lib.hid hX
  have HB := Lib.hid hB
  have HX0 := Lib.hid hX0
  unfold RJoinP
  clear hn hg hx hk hb hX hB hx0 hx1 hx2 hx3 hx4 hX0
  go_enter Tryz.func108, Tryz.ntmps108
  go_wp2_with fail
  rw [HX0.out]
  refine (HS.out W0).mono ?_; rintro e w2 ⟨rfl, hd⟩
  have hb2 : Below W0.heap.size W0 w2 := by first | exact hd.below | (subst hd; exact Below.refl _ _)
  have HB2 := Lib.hid (below_then HB.out hb2)
  have HX2 := Lib.hid (And.intro (heap_then HX.out.1 hb2) (heap_then HX.out.2 hb2))
  clear hd hb2 HS HB HX HX0
  go_wp2_with fail
  refine (HK.out w2).mono ?_; rintro e w3 ⟨rfl, hd⟩
  have hb3 : Below w2.heap.size w2 w3 := by obtain ⟨n, rfl⟩ := hd; exact below_drewN (Below.refl _ _) n
  have HB3 := Lib.hid (below_then HB2.out hb3)
  have hx3 := heap_then HX2.out.1 hb3
  have hr3 := heap_then HX2.out.2 hb3
  have hN3 := HV.out w3 HB3.out
  obtain ⟨⟨q0, q1, q2, q3, q4, q5, q6⟩, z0, z1, z2, z3, z4, z5, z6⟩ := seven_at hx3
  clear hd hb3 HK HB2 HX2 HV
  cases x3
  · cases x4
    · have hh0 : (w3.setCell ⟨w.heap.size, 3, none⟩ (.bool true)).heap[w.heap.size]? = some (.cells #[.bool x0, .bool x1, .bool x2, .bool true, .bool false, .bool nb, .slice p l c] 95 (0, 0)) := by simp [World.setCell, Array.getElem?_modify, hx3]
      have hg0 := grown_set w3 (w.heap.size) 3 (.bool true)
      have hh1 : ((w3.setCell ⟨w.heap.size, 3, none⟩ (.bool true)).setCell ⟨w.heap.size, 4, none⟩ (.bool false)).heap[w.heap.size]? = some (.cells #[.bool x0, .bool x1, .bool x2, .bool true, .bool false, .bool nb, .slice p l c] 95 (0, 0)) := by simp [World.setCell, Array.getElem?_modify, hx3]
      have hg1 := grown_then hg0 (grown_set (w3.setCell ⟨w.heap.size, 3, none⟩ (.bool true)) (w.heap.size) 4 (.bool false))
      have hrx : ((w3.setCell ⟨w.heap.size, 3, none⟩ (.bool true)).setCell ⟨w.heap.size, 4, none⟩ (.bool false)).heap[w.heap.size + 1]? = _ := (hg1.block _ (Array.getElem?_eq_some_iff.1 hr3).1 (by simp)).trans hr3
      have hNx := hN3.grown hx3 (by decide) hg1
      have hBx := HB3.out.grown hg1 HB3.out.size (fun k hk => by simp only [Option.some.injEq] at hk; omega)
      obtain ⟨⟨u00, u01, u02, u03, u04, u05, u06⟩, v00, v01, v02, v03, v04, v05, v06⟩ := seven_at hh0
      obtain ⟨⟨u10, u11, u12, u13, u14, u15, u16⟩, v10, v11, v12, v13, v14, v15, v16⟩ := seven_at hh1
      obtain ⟨⟨r0, r1, r2, r3, r4, r5, r6⟩, f0, f1, f2, f3, f4, f5, f6⟩ := seven_at hrx
      have HR := Lib.hid hrx
      have HNx := Lib.hid hNx
      have HBx := Lib.hid hBx
      clear hN3 hx3 hr3 hrx hNx hBx hh0 hg0 hh1 hg1
      go_wp2_with fail
      have hf := set7 (a' := .bool x0) (b' := .bool x1) (c' := .bool x2) (d' := .bool true) (e' := .bool false) (f' := .bool nb) (g' := .slice p l c) HR.out
      have hgr := grown7 ((w3.setCell ⟨w.heap.size, 3, none⟩ (.bool true)).setCell ⟨w.heap.size, 4, none⟩ (.bool false)) (w.heap.size + 1) (.bool x0) (.bool x1) (.bool x2) (.bool true) (.bool false) (.bool nb) (.slice p l c)
      have hn := HNx.out.grown HR.out (by decide) hgr
      have hbl := HBx.out.grown hgr HBx.out.size (fun k hk => by simp only [Option.some.injEq] at hk; omega)
      generalize (((((((((w3.setCell ⟨w.heap.size, 3, none⟩ (.bool true)).setCell ⟨w.heap.size, 4, none⟩ (.bool false)).setCell ⟨w.heap.size + 1, 0, none⟩ (.bool x0)).setCell ⟨w.heap.size + 1, 1, none⟩ (.bool x1)).setCell ⟨w.heap.size + 1, 2, none⟩ (.bool x2)).setCell ⟨w.heap.size + 1, 3, none⟩ (.bool true)).setCell ⟨w.heap.size + 1, 4, none⟩ (.bool false)).setCell ⟨w.heap.size + 1, 5, none⟩ (.bool nb)).setCell ⟨w.heap.size + 1, 6, none⟩ (.slice p l c)) = wz at *
      obtain ⟨⟨k0, k1, k2, k3, k4, k5, k6⟩, -⟩ := seven_at hf
      exact bodyPost_ret (v := .tuple #[.agg #[.bool x0, .bool x1, .bool x2, .bool true, .bool false, .bool nb, .slice p l c], .bool true]) (by simp [results, Tryz.results108, go_sem, k0, k1, k2, k3, k4, k5, k6]) rfl ⟨⟨_, rfl, nb, p, l, c, by rw [bitB_or, bitB_or, bitB_or, bitB_or, bitB_or, HXX.out.1, HXX.out.2.1, HXX.out.2.2.1, HXX.out.2.2.2.1, HXX.out.2.2.2.2]; simp [bits8], hn, HGr.out⟩, hbl⟩
    · have hh0 : (w3.setCell ⟨w.heap.size, 3, none⟩ (.bool true)).heap[w.heap.size]? = some (.cells #[.bool x0, .bool x1, .bool x2, .bool true, .bool true, .bool nb, .slice p l c] 95 (0, 0)) := by simp [World.setCell, Array.getElem?_modify, hx3]
      have hg0 := grown_set w3 (w.heap.size) 3 (.bool true)
      have hh1 : ((w3.setCell ⟨w.heap.size, 3, none⟩ (.bool true)).setCell ⟨w.heap.size, 4, none⟩ (.bool true)).heap[w.heap.size]? = some (.cells #[.bool x0, .bool x1, .bool x2, .bool true, .bool true, .bool nb, .slice p l c] 95 (0, 0)) := by simp [World.setCell, Array.getElem?_modify, hx3]
      have hg1 := grown_then hg0 (grown_set (w3.setCell ⟨w.heap.size, 3, none⟩ (.bool true)) (w.heap.size) 4 (.bool true))
      have hrx : ((w3.setCell ⟨w.heap.size, 3, none⟩ (.bool true)).setCell ⟨w.heap.size, 4, none⟩ (.bool true)).heap[w.heap.size + 1]? = _ := (hg1.block _ (Array.getElem?_eq_some_iff.1 hr3).1 (by simp)).trans hr3
      have hNx := hN3.grown hx3 (by decide) hg1
      have hBx := HB3.out.grown hg1 HB3.out.size (fun k hk => by simp only [Option.some.injEq] at hk; omega)
      obtain ⟨⟨u00, u01, u02, u03, u04, u05, u06⟩, v00, v01, v02, v03, v04, v05, v06⟩ := seven_at hh0
      obtain ⟨⟨u10, u11, u12, u13, u14, u15, u16⟩, v10, v11, v12, v13, v14, v15, v16⟩ := seven_at hh1
      obtain ⟨⟨r0, r1, r2, r3, r4, r5, r6⟩, f0, f1, f2, f3, f4, f5, f6⟩ := seven_at hrx
      have HR := Lib.hid hrx
      have HNx := Lib.hid hNx
      have HBx := Lib.hid hBx
      clear hN3 hx3 hr3 hrx hNx hBx hh0 hg0 hh1 hg1
      go_wp2_with fail
      have hf := set7 (a' := .bool x0) (b' := .bool x1) (c' := .bool x2) (d' := .bool true) (e' := .bool true) (f' := .bool nb) (g' := .slice p l c) HR.out
      have hgr := grown7 ((w3.setCell ⟨w.heap.size, 3, none⟩ (.bool true)).setCell ⟨w.heap.size, 4, none⟩ (.bool true)) (w.heap.size + 1) (.bool x0) (.bool x1) (.bool x2) (.bool true) (.bool true) (.bool nb) (.slice p l c)
      have hn := HNx.out.grown HR.out (by decide) hgr
      have hbl := HBx.out.grown hgr HBx.out.size (fun k hk => by simp only [Option.some.injEq] at hk; omega)
      generalize (((((((((w3.setCell ⟨w.heap.size, 3, none⟩ (.bool true)).setCell ⟨w.heap.size, 4, none⟩ (.bool true)).setCell ⟨w.heap.size + 1, 0, none⟩ (.bool x0)).setCell ⟨w.heap.size + 1, 1, none⟩ (.bool x1)).setCell ⟨w.heap.size + 1, 2, none⟩ (.bool x2)).setCell ⟨w.heap.size + 1, 3, none⟩ (.bool true)).setCell ⟨w.heap.size + 1, 4, none⟩ (.bool true)).setCell ⟨w.heap.size + 1, 5, none⟩ (.bool nb)).setCell ⟨w.heap.size + 1, 6, none⟩ (.slice p l c)) = wz at *
      obtain ⟨⟨k0, k1, k2, k3, k4, k5, k6⟩, -⟩ := seven_at hf
      exact bodyPost_ret (v := .tuple #[.agg #[.bool x0, .bool x1, .bool x2, .bool true, .bool true, .bool nb, .slice p l c], .bool true]) (by simp [results, Tryz.results108, go_sem, k0, k1, k2, k3, k4, k5, k6]) rfl ⟨⟨_, rfl, nb, p, l, c, by rw [bitB_or, bitB_or, bitB_or, bitB_or, bitB_or, HXX.out.1, HXX.out.2.1, HXX.out.2.2.1, HXX.out.2.2.2.1, HXX.out.2.2.2.2]; simp [bits8], hn, HGr.out⟩, hbl⟩
  · cases x4
    · have hh0 : (w3.setCell ⟨w.heap.size, 3, none⟩ (.bool true)).heap[w.heap.size]? = some (.cells #[.bool x0, .bool x1, .bool x2, .bool true, .bool false, .bool nb, .slice p l c] 95 (0, 0)) := by simp [World.setCell, Array.getElem?_modify, hx3]
      have hg0 := grown_set w3 (w.heap.size) 3 (.bool true)
      have hh1 : ((w3.setCell ⟨w.heap.size, 3, none⟩ (.bool true)).setCell ⟨w.heap.size, 4, none⟩ (.bool false)).heap[w.heap.size]? = some (.cells #[.bool x0, .bool x1, .bool x2, .bool true, .bool false, .bool nb, .slice p l c] 95 (0, 0)) := by simp [World.setCell, Array.getElem?_modify, hx3]
      have hg1 := grown_then hg0 (grown_set (w3.setCell ⟨w.heap.size, 3, none⟩ (.bool true)) (w.heap.size) 4 (.bool false))
      have hrx : ((w3.setCell ⟨w.heap.size, 3, none⟩ (.bool true)).setCell ⟨w.heap.size, 4, none⟩ (.bool false)).heap[w.heap.size + 1]? = _ := (hg1.block _ (Array.getElem?_eq_some_iff.1 hr3).1 (by simp)).trans hr3
      have hNx := hN3.grown hx3 (by decide) hg1
      have hBx := HB3.out.grown hg1 HB3.out.size (fun k hk => by simp only [Option.some.injEq] at hk; omega)
      obtain ⟨⟨u00, u01, u02, u03, u04, u05, u06⟩, v00, v01, v02, v03, v04, v05, v06⟩ := seven_at hh0
      obtain ⟨⟨u10, u11, u12, u13, u14, u15, u16⟩, v10, v11, v12, v13, v14, v15, v16⟩ := seven_at hh1
      obtain ⟨⟨r0, r1, r2, r3, r4, r5, r6⟩, f0, f1, f2, f3, f4, f5, f6⟩ := seven_at hrx
      have HR := Lib.hid hrx
      have HNx := Lib.hid hNx
      have HBx := Lib.hid hBx
      clear hN3 hx3 hr3 hrx hNx hBx hh0 hg0 hh1 hg1
      go_wp2_with fail
      have hf := set7 (a' := .bool x0) (b' := .bool x1) (c' := .bool x2) (d' := .bool true) (e' := .bool false) (f' := .bool nb) (g' := .slice p l c) HR.out
      have hgr := grown7 ((w3.setCell ⟨w.heap.size, 3, none⟩ (.bool true)).setCell ⟨w.heap.size, 4, none⟩ (.bool false)) (w.heap.size + 1) (.bool x0) (.bool x1) (.bool x2) (.bool true) (.bool false) (.bool nb) (.slice p l c)
      have hn := HNx.out.grown HR.out (by decide) hgr
      have hbl := HBx.out.grown hgr HBx.out.size (fun k hk => by simp only [Option.some.injEq] at hk; omega)
      generalize (((((((((w3.setCell ⟨w.heap.size, 3, none⟩ (.bool true)).setCell ⟨w.heap.size, 4, none⟩ (.bool false)).setCell ⟨w.heap.size + 1, 0, none⟩ (.bool x0)).setCell ⟨w.heap.size + 1, 1, none⟩ (.bool x1)).setCell ⟨w.heap.size + 1, 2, none⟩ (.bool x2)).setCell ⟨w.heap.size + 1, 3, none⟩ (.bool true)).setCell ⟨w.heap.size + 1, 4, none⟩ (.bool false)).setCell ⟨w.heap.size + 1, 5, none⟩ (.bool nb)).setCell ⟨w.heap.size + 1, 6, none⟩ (.slice p l c)) = wz at *
      obtain ⟨⟨k0, k1, k2, k3, k4, k5, k6⟩, -⟩ := seven_at hf
      exact bodyPost_ret (v := .tuple #[.agg #[.bool x0, .bool x1, .bool x2, .bool true, .bool false, .bool nb, .slice p l c], .bool true]) (by simp [results, Tryz.results108, go_sem, k0, k1, k2, k3, k4, k5, k6]) rfl ⟨⟨_, rfl, nb, p, l, c, by rw [bitB_or, bitB_or, bitB_or, bitB_or, bitB_or, HXX.out.1, HXX.out.2.1, HXX.out.2.2.1, HXX.out.2.2.2.1, HXX.out.2.2.2.2]; simp [bits8], hn, HGr.out⟩, hbl⟩
    · have hh0 : (w3.setCell ⟨w.heap.size, 3, none⟩ (.bool true)).heap[w.heap.size]? = some (.cells #[.bool x0, .bool x1, .bool x2, .bool true, .bool true, .bool nb, .slice p l c] 95 (0, 0)) := by simp [World.setCell, Array.getElem?_modify, hx3]
      have hg0 := grown_set w3 (w.heap.size) 3 (.bool true)
      have hh1 : ((w3.setCell ⟨w.heap.size, 3, none⟩ (.bool true)).setCell ⟨w.heap.size, 4, none⟩ (.bool true)).heap[w.heap.size]? = some (.cells #[.bool x0, .bool x1, .bool x2, .bool true, .bool true, .bool nb, .slice p l c] 95 (0, 0)) := by simp [World.setCell, Array.getElem?_modify, hx3]
      have hg1 := grown_then hg0 (grown_set (w3.setCell ⟨w.heap.size, 3, none⟩ (.bool true)) (w.heap.size) 4 (.bool true))
      have hrx : ((w3.setCell ⟨w.heap.size, 3, none⟩ (.bool true)).setCell ⟨w.heap.size, 4, none⟩ (.bool true)).heap[w.heap.size + 1]? = _ := (hg1.block _ (Array.getElem?_eq_some_iff.1 hr3).1 (by simp)).trans hr3
      have hNx := hN3.grown hx3 (by decide) hg1
      have hBx := HB3.out.grown hg1 HB3.out.size (fun k hk => by simp only [Option.some.injEq] at hk; omega)
      obtain ⟨⟨u00, u01, u02, u03, u04, u05, u06⟩, v00, v01, v02, v03, v04, v05, v06⟩ := seven_at hh0
      obtain ⟨⟨u10, u11, u12, u13, u14, u15, u16⟩, v10, v11, v12, v13, v14, v15, v16⟩ := seven_at hh1
      obtain ⟨⟨r0, r1, r2, r3, r4, r5, r6⟩, f0, f1, f2, f3, f4, f5, f6⟩ := seven_at hrx
      have HR := Lib.hid hrx
      have HNx := Lib.hid hNx
      have HBx := Lib.hid hBx
      clear hN3 hx3 hr3 hrx hNx hBx hh0 hg0 hh1 hg1
      go_wp2_with fail
      have hf := set7 (a' := .bool x0) (b' := .bool x1) (c' := .bool x2) (d' := .bool true) (e' := .bool true) (f' := .bool nb) (g' := .slice p l c) HR.out
      have hgr := grown7 ((w3.setCell ⟨w.heap.size, 3, none⟩ (.bool true)).setCell ⟨w.heap.size, 4, none⟩ (.bool true)) (w.heap.size + 1) (.bool x0) (.bool x1) (.bool x2) (.bool true) (.bool true) (.bool nb) (.slice p l c)
      have hn := HNx.out.grown HR.out (by decide) hgr
      have hbl := HBx.out.grown hgr HBx.out.size (fun k hk => by simp only [Option.some.injEq] at hk; omega)
      generalize (((((((((w3.setCell ⟨w.heap.size, 3, none⟩ (.bool true)).setCell ⟨w.heap.size, 4, none⟩ (.bool true)).setCell ⟨w.heap.size + 1, 0, none⟩ (.bool x0)).setCell ⟨w.heap.size + 1, 1, none⟩ (.bool x1)).setCell ⟨w.heap.size + 1, 2, none⟩ (.bool x2)).setCell ⟨w.heap.size + 1, 3, none⟩ (.bool true)).setCell ⟨w.heap.size + 1, 4, none⟩ (.bool true)).setCell ⟨w.heap.size + 1, 5, none⟩ (.bool nb)).setCell ⟨w.heap.size + 1, 6, none⟩ (.slice p l c)) = wz at *
      obtain ⟨⟨k0, k1, k2, k3, k4, k5, k6⟩, -⟩ := seven_at hf
      exact bodyPost_ret (v := .tuple #[.agg #[.bool x0, .bool x1, .bool x2, .bool true, .bool true, .bool nb, .slice p l c], .bool true]) (by simp [results, Tryz.results108, go_sem, k0, k1, k2, k3, k4, k5, k6]) rfl ⟨⟨_, rfl, nb, p, l, c, by rw [bitB_or, bitB_or, bitB_or, bitB_or, bitB_or, HXX.out.1, HXX.out.2.1, HXX.out.2.2.1, HXX.out.2.2.2.1, HXX.out.2.2.2.2]; simp [bits8], hn, HGr.out⟩, hbl⟩
end Go.Proofs.YtigikgphipebiaaGreatDoor
