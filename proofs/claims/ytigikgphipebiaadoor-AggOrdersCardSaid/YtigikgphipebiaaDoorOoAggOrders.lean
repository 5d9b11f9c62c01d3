/- AggOrders: for any three cells the statement's function returns true and changes nothing that was there. No condition; the row lists the two tables of math/bits as the program's text lays them. -/
import Derived.SevenTiedAt
import Derived.Test.YtigikgphipebiaaDoorRows
import Derived.Test.YtigikgphipebiaaDoorCards
import Derived.Test.YtigikgphipebiaaDoorTie
import Derived.Test.YtigikgphipebiaaDoorOo16
import Derived.Test.YtigikgphipebiaaDoorOo31
namespace Go.Proofs.YtigikgphipebiaaDoor.aggOrders
set_option maxRecDepth 100000
open Go.ChangeShapes Go.WideShapes Go.ChangeAt Go.RowKit
set_option linter.unusedVariables false
set_option maxHeartbeats 8000000 in
theorem walk (I N : Value) (a : Ce) (I' N' : Value) (b : Ce) (I2 N2 : Value) (c : Ce) (w : World) (h : CeM w I N a) (ha : CeW a) (h' : CeM w I' N' b) (hb : CeW b) (h2 : CeM w I2 N2 c) (hc : CeW c) (hT : Tab w) (hT2 : Tab64 w) :
    Calls Tryd.prog 3 #[CeV a I N, CeV b I' N', CeV c I2 N2] w fun e w' => e = .returned (.bool true) ∧ Below w.heap.size w w' := by
  obtain ⟨⟨p, k, rfl⟩, q, l, rfl⟩ := h.slices
  obtain ⟨⟨p', k', rfl⟩, q', l', rfl⟩ := h'.slices
  obtain ⟨⟨p2, k2, rfl⟩, q2, l2, rfl⟩ := h2.slices
  have HA := Lib.hid (fun w1 (hb1 : Below w.heap.size w w1) => awake14_any w1 (hT.call hb1) (hT2.call hb1))
  have HTb := Lib.hid (fun w1 (hb1 : Below w.heap.size w w1) => hT.call hb1)
  have hb1 := below_one w (.cells #[.int .u64 a.key, .int .i64 a.cnt, .slice p a.is.length k, .slice q a.ns.length l] 26)
  have hb2 := below_one (w.alloc (.cells #[.int .u64 a.key, .int .i64 a.cnt, .slice p a.is.length k, .slice q a.ns.length l] 26)) (.cells #[.int .u64 b.key, .int .i64 b.cnt, .slice p' b.is.length k', .slice q' b.ns.length l'] 26)
  have hb3 := below_one ((w.alloc (.cells #[.int .u64 a.key, .int .i64 a.cnt, .slice p a.is.length k, .slice q a.ns.length l] 26)).alloc (.cells #[.int .u64 b.key, .int .i64 b.cnt, .slice p' b.is.length k', .slice q' b.ns.length l'] 26)) (.cells #[.int .u64 c.key, .int .i64 c.cnt, .slice p2 c.is.length k2, .slice q2 c.ns.length l2] 26)
  have HB := Lib.hid (below_then (below_then hb1 hb2) hb3)
  have HX := Lib.hid (((cbox_new h).below hb2).below hb3)
  have hy := (cbox_new (h'.below hb1)).below hb3
  rw [World.size_alloc] at hy
  have HY := Lib.hid hy
  have hz := cbox_new (h2.below (below_then hb1 hb2))
  simp only [World.size_alloc] at hz
  have HZ := Lib.hid hz
  have HWa := Lib.hid ha
  have HWb := Lib.hid hb
  have HWc := Lib.hid hc
  clear h h' h2 ha hb hc hb1 hb2 hb3 hy hz hT hT2
  go_enter Tryd.func3, Tryd.ntmps3
  go_upto_region 1 with fail
  generalize ((w.alloc (.cells #[.int .u64 a.key, .int .i64 a.cnt, .slice p a.is.length k, .slice q a.ns.length l] 26)).alloc (.cells #[.int .u64 b.key, .int .i64 b.cnt, .slice p' b.is.length k', .slice q' b.ns.length l'] 26)).alloc (.cells #[.int .u64 c.key, .int .i64 c.cnt, .slice p2 c.is.length k2, .slice q2 c.ns.length l2] 26) = W at *
  obtain ⟨x0, x1, x2, x3⟩ := HX.out.reads
  go_wp2_with fail
  refine (rlight_any _ a _ _ HX.out.m).mono ?_; rintro e w1 ⟨rfl, hb1⟩
  have HB1 := Lib.hid (below_then HB.out hb1)
  have HX1 := Lib.hid (HX.out.below hb1)
  have HY1 := Lib.hid (HY.out.below hb1)
  have HZ1 := Lib.hid (HZ.out.below hb1)
  clear hb1 x0 x1 x2 x3 HX HY HZ HB
  obtain ⟨y0, y1, y2, y3⟩ := HY1.out.reads
  cases hla : lightC a with
  | false =>
    clear y0 y1 y2 y3
    go_wp2_with fail
    refine (HA.out _ HB1.out).mono ?_; rintro e w2 ⟨rfl, hb2⟩
    have HB2 := Lib.hid (below_then HB1.out hb2)
    clear hb2
    go_wp2_with fail
    go_ret
    exact ⟨rfl, HB2.out⟩
  | true =>
    have HLa := Lib.hid hla
    clear hla
    go_wp2_with fail
    refine (rlight_any _ b _ _ HY1.out.m).mono ?_; rintro e w2 ⟨rfl, hb2⟩
    have HB2 := Lib.hid (below_then HB1.out hb2)
    have HX2 := Lib.hid (HX1.out.below hb2)
    have HY2 := Lib.hid (HY1.out.below hb2)
    have HZ2 := Lib.hid (HZ1.out.below hb2)
    clear hb2 y0 y1 y2 y3 HX1 HY1 HZ1 HB1
    obtain ⟨z0, z1, z2, z3⟩ := HZ2.out.reads
    cases hlb : lightC b with
    | false =>
      clear z0 z1 z2 z3
      go_wp2_with fail
      refine (HA.out _ HB2.out).mono ?_; rintro e w3 ⟨rfl, hb3⟩
      have HB3 := Lib.hid (below_then HB2.out hb3)
      clear hb3
      go_wp2_with fail
      go_ret
      exact ⟨rfl, HB3.out⟩
    | true =>
      have HLb := Lib.hid hlb
      clear hlb
      go_wp2_with fail
      refine (rlight_any _ c _ _ HZ2.out.m).mono ?_; rintro e w3 ⟨rfl, hb3⟩
      have HB3 := Lib.hid (below_then HB2.out hb3)
      have HX3 := Lib.hid (HX2.out.below hb3)
      have HY3 := Lib.hid (HY2.out.below hb3)
      have HZ3 := Lib.hid (HZ2.out.below hb3)
      clear hb3 z0 z1 z2 z3 HX2 HY2 HZ2 HB2
      cases hlc : lightC c with
      | false =>
        go_wp2_with fail
        refine (HA.out _ HB3.out).mono ?_; rintro e w4 ⟨rfl, hb4⟩
        have HB4 := Lib.hid (below_then HB3.out hb4)
        clear hb4
        go_wp2_with fail
        go_ret
        exact ⟨rfl, HB4.out⟩
      | true =>
        have HSa := Lib.hid (light_short HLa.out)
        have HSb := Lib.hid (light_short HLb.out)
        have HSc := Lib.hid (light_short hlc)
        have H1 := Lib.hid (pj_open w3 a b _ _ _ _ 20 (by decide) HX3.out.m HY3.out.m HWa.out HWb.out HSa.out HSb.out (HTb.out _ HB3.out))
        obtain ⟨x0, x1, x2, x3⟩ := HX3.out.reads
        obtain ⟨y0, y1, y2, y3⟩ := HY3.out.reads
        clear hlc
        go_wp2_with fail
        refine H1.out.mono ?_; rintro e w4 ⟨x, px, kx, qx, lx, rfl, hm, hj1, hj2, hwx, hsx, hb4⟩
        have hb5 := below_then hb4 (below_one w4 (.cells #[.int .u64 x.key, .int .i64 x.cnt, .slice px x.is.length kx, .slice qx x.ns.length lx] 26))
        have HB5 := Lib.hid (below_then HB3.out hb5)
        have HX5 := Lib.hid (HX3.out.below hb5)
        have HY5 := Lib.hid (HY3.out.below hb5)
        have HZ5 := Lib.hid (HZ3.out.below hb5)
        have HP5 := Lib.hid (cbox_new hm)
        have HWx := Lib.hid hwx
        have HSx := Lib.hid hsx
        have HJx := Lib.hid hj1
        have hn1 : w.heap.size + 1 + 1 < w4.heap.size := Nat.lt_of_lt_of_le (Array.getElem?_eq_some_iff.1 HZ3.out.b).1 hb4.size
        clear hb4 hb5 hm hj1 hj2 hwx hsx H1 HB3 HX3 HY3 HZ3 x0 x1 x2 x3 y0 y1 y2 y3
        go_upto_region 4 with fail
        generalize w4.alloc (.cells #[.int .u64 x.key, .int .i64 x.cnt, .slice px x.is.length kx, .slice qx x.ns.length lx] 26) = w5 at *
        generalize w4.heap.size = K1 at *
        have H2 := Lib.hid (pj_open w5 b c _ _ _ _ 20 (by decide) HY5.out.m HZ5.out.m HWb.out HWc.out HSb.out HSc.out (HTb.out _ HB5.out))
        obtain ⟨y0, y1, y2, y3⟩ := HY5.out.reads
        obtain ⟨z0, z1, z2, z3⟩ := HZ5.out.reads
        go_wp2_with fail
        refine H2.out.mono ?_; rintro e w6 ⟨y, py, ky, qy, ly, rfl, hm, hj1, hj2, hwy, hsy, hb6⟩
        have hb7 := below_then hb6 (below_one w6 (.cells #[.int .u64 y.key, .int .i64 y.cnt, .slice py y.is.length ky, .slice qy y.ns.length ly] 26))
        have HB7 := Lib.hid (below_then HB5.out hb7)
        have HX7 := Lib.hid (HX5.out.below hb7)
        have HZ7 := Lib.hid (HZ5.out.below hb7)
        have HP7 := Lib.hid (HP5.out.below hb7)
        have HQ7 := Lib.hid (cbox_new hm)
        have HWy := Lib.hid hwy
        have HSy := Lib.hid hsy
        have HJy := Lib.hid hj1
        have hn2 : K1 < w6.heap.size := Nat.lt_of_lt_of_le (Array.getElem?_eq_some_iff.1 HP5.out.b).1 hb6.size
        clear hb6 hb7 hm hj1 hj2 hwy hsy H2 HB5 HX5 HY5 HZ5 HP5 y0 y1 y2 y3 z0 z1 z2 z3
        go_upto_region 5 with fail
        generalize w6.alloc (.cells #[.int .u64 y.key, .int .i64 y.cnt, .slice py y.is.length ky, .slice qy y.ns.length ly] 26) = w7 at *
        generalize w6.heap.size = K2 at *
        have hE : (errJ a b ≠ 0) ∨ (errJ a b = 0 ∧ errJ b c ≠ 0) ∨ (errJ a b = 0 ∧ errJ b c = 0) := by omega
        rcases hE with he | ⟨he, he2⟩ | ⟨he, he2⟩
        · have hn : ((errJ a b : Int) != 0) = true := by simp [he]
          generalize errJ a b = E at *
          generalize errJ b c = E2 at *
          clear he
          go_wp2_with fail
          refine (HA.out _ HB7.out).mono ?_; rintro e w8 ⟨rfl, hb8⟩
          have HB8 := Lib.hid (below_then HB7.out hb8)
          clear hb8
          go_wp2_with fail
          go_ret
          exact ⟨rfl, HB8.out⟩
        · have hn : ((errJ b c : Int) != 0) = true := by simp [he2]
          rw [he]
          generalize errJ b c = E2 at *
          clear he he2
          go_wp2_with fail
          refine (HA.out _ HB7.out).mono ?_; rintro e w8 ⟨rfl, hb8⟩
          have HB8 := Lib.hid (below_then HB7.out hb8)
          clear hb8
          go_wp2_with fail
          go_ret
          exact ⟨rfl, HB8.out⟩
        · have HJ0 := Lib.hid (And.intro he (And.intro (HJx.out he) (HJy.out he2)))
          have H3 := Lib.hid (pj_open w7 x c _ _ _ _ 21 (by decide) HP7.out.m HZ7.out.m HWx.out HWc.out HSx.out (HSc.out.mono (by decide)) (HTb.out _ HB7.out))
          rw [he, he2]
          clear he he2 HJx HJy
          obtain ⟨x0, x1, x2, x3⟩ := HP7.out.reads
          obtain ⟨z0, z1, z2, z3⟩ := HZ7.out.reads
          go_wp2_with fail
          refine H3.out.mono ?_; rintro e w8 ⟨x', px', kx', qx', lx', rfl, hm, hj1, -, hwx', hsx', hb8⟩
          have hP8 := HP7.out.below hb8
          have HP9 := Lib.hid (hP8.put hm)
          have HX9 := Lib.hid (CBox.far (kk := x'.key) (nn := x'.cnt) (I := .slice px' x'.is.length kx') (N := .slice qx' x'.ns.length lx') hP8 (HX7.out.below hb8) (by omega))
          have HQ9 := Lib.hid (CBox.far (kk := x'.key) (nn := x'.cnt) (I := .slice px' x'.is.length kx') (N := .slice qx' x'.ns.length lx') hP8 (HQ7.out.below hb8) (by omega))
          have HB9 := Lib.hid (set4_below (R := K1) (k' := x'.key) (n' := x'.cnt) (I' := .slice px' x'.is.length kx') (N' := .slice qx' x'.ns.length lx') (below_then HB7.out hb8) (by omega))
          have HWx' := Lib.hid hwx'
          have HJx' := Lib.hid hj1
          clear x0 x1 x2 x3 z0 z1 z2 z3
          obtain ⟨x0, x1, x2, x3⟩ := hP8.reads
          have xf := hP8.free
          clear hb8 hP8 hm hj1 hwx' hsx' H3 HX7 HQ7 HP7 HZ7
          go_upto_region 8 with fail
          unfold set4 at HP9 HX9 HQ9 HB9
          generalize (((w8.setCell ⟨K1, 0, none⟩ (.int .u64 x'.key)).setCell ⟨K1, 1, none⟩ (.int .i64 x'.cnt)).setCell ⟨K1, 2, none⟩ (.slice px' x'.is.length kx')).setCell ⟨K1, 3, none⟩ (.slice qx' x'.ns.length lx') = w9 at *
          clear x0 x1 x2 x3 xf
          have H4 := Lib.hid (pj_open w9 a y _ _ _ _ 21 (by decide) HX9.out.m HQ9.out.m HWa.out HWy.out (HSa.out.mono (by decide)) HSy.out (HTb.out _ HB9.out))
          obtain ⟨x0, x1, x2, x3⟩ := HX9.out.reads
          obtain ⟨z0, z1, z2, z3⟩ := HQ9.out.reads
          go_wp2_with fail
          refine H4.out.mono ?_; rintro e w10 ⟨y', py', ky', qy', ly', rfl, hm, hj1, -, hwy', hsy', hb10⟩
          have hQ10 := HQ9.out.below hb10
          have HQ11 := Lib.hid (hQ10.put hm)
          have HP11 := Lib.hid (CBox.far (kk := y'.key) (nn := y'.cnt) (I := .slice py' y'.is.length ky') (N := .slice qy' y'.ns.length ly') hQ10 (HP9.out.below hb10) (by omega))
          have HB11 := Lib.hid (set4_below (R := K2) (k' := y'.key) (n' := y'.cnt) (I' := .slice py' y'.is.length ky') (N' := .slice qy' y'.ns.length ly') (below_then HB9.out hb10) (by omega))
          have HS := Lib.hid (fun e1 e2 => rj_three HJ0.out.1 HJ0.out.2.1 HJ0.out.2.2 HJx'.out hj1 e1 e2)
          have HWy' := Lib.hid hwy'
          clear x0 x1 x2 x3 z0 z1 z2 z3
          obtain ⟨x0, x1, x2, x3⟩ := hQ10.reads
          have xf := hQ10.free
          clear hb10 hQ10 hm hj1 hwy' hsy' H4 HX9 HQ9 HP9 HB9 HJ0 HJx'
          go_upto_region 9 with fail
          unfold set4 at HQ11 HP11 HB11
          generalize (((w10.setCell ⟨K2, 0, none⟩ (.int .u64 y'.key)).setCell ⟨K2, 1, none⟩ (.int .i64 y'.cnt)).setCell ⟨K2, 2, none⟩ (.slice py' y'.is.length ky')).setCell ⟨K2, 3, none⟩ (.slice qy' y'.ns.length ly') = w11 at *
          clear x0 x1 x2 x3 xf
          have hE : (errJ x c ≠ 0) ∨ (errJ x c = 0 ∧ errJ a y ≠ 0) ∨ (errJ x c = 0 ∧ errJ a y = 0) := by omega
          rcases hE with he | ⟨he, he2⟩ | ⟨he, he2⟩
          · have hn : ((errJ x c : Int) != 0) = true := by simp [he]
            generalize errJ x c = E at *
            generalize errJ a y = E2 at *
            clear he HS
            go_wp2_with fail
            refine (HA.out _ HB11.out).mono ?_; rintro e w12 ⟨rfl, hb12⟩
            have HB12 := Lib.hid (below_then HB11.out hb12)
            clear hb12
            go_wp2_with fail
            go_ret
            exact ⟨rfl, HB12.out⟩
          · have hn : ((errJ a y : Int) != 0) = true := by simp [he2]
            rw [he]
            generalize errJ a y = E2 at *
            clear he he2 HS
            go_wp2_with fail
            refine (HA.out _ HB11.out).mono ?_; rintro e w12 ⟨rfl, hb12⟩
            have HB12 := Lib.hid (below_then HB11.out hb12)
            clear hb12
            go_wp2_with fail
            go_ret
            exact ⟨rfl, HB12.out⟩
          · have hs := HS.out he he2
            have H5 := Lib.hid (rsame14_any w11 x' y' _ _ _ _ HP11.out.m HQ11.out.m HWx'.out HWy'.out)
            rw [hs] at H5
            rw [he, he2]
            clear he he2 hs HS
            obtain ⟨x0, x1, x2, x3⟩ := HP11.out.reads
            obtain ⟨z0, z1, z2, z3⟩ := HQ11.out.reads
            go_wp2_with fail
            refine H5.out.mono ?_; rintro e w12 ⟨rfl, hb12⟩
            have HB12 := Lib.hid (below_then HB11.out hb12)
            clear hb12 x0 x1 x2 x3 z0 z1 z2 z3
            go_wp2_with fail
            refine (HA.out _ HB12.out).mono ?_; rintro e w13 ⟨rfl, hb13⟩
            have HB13 := Lib.hid (below_then HB12.out hb13)
            clear hb13
            go_wp2_with fail
            go_ret
            exact ⟨rfl, HB13.out⟩
set_option maxRecDepth 100000 in
theorem lifted (os : Os) (started : os.Started) (H : Type) (enc : TypeId × Value → H) :
    ReturnsInHanded {} Tryd.checked os 3 .any (fun w args => (Rows.aggOrdersSpec.pre enc Tryd.prog Tryd.f3 [] false w args ∧ laidMetH Tryd.prog laid3 w) ∧ sizedMet enc Tryd.prog Tryd.f3 (OpenSpec.ofChange Rows.aggOrdersSpec) false w args)
      (Rows.aggOrdersSpec.post enc Tryd.prog Tryd.f3 false true false false) := by
  refine returnsInHanded_of_change_and (C := Tryd.checked) (X := fun w _ => laidMetH Tryd.prog laid3 w) (fun _ _ _ hh h => h.of_heap hh) own2 started (by kernel_rfl) Tryd.func3
    (ChangeSpec.witness_shaped (enc := enc) (C := Tryd.checked) (os := os) (X := fun w _ => laidMetH Tryd.prog laid3 w) false (World.doorLaid Tryd.prog 800 os) #[.agg #[.int .u64 0, .int .i64 0, .slice none 0 0, .slice none 0 0], .agg #[.int .u64 0, .int .i64 0, .slice none 0 0, .slice none 0 0], .agg #[.int .u64 0, .int .i64 0, .slice none 0 0, .slice none 0 0]] 8 rfl (World.shaped_of_RefB (by kernel_rfl) (by kernel_rfl)) (by kernel_rfl) (by kernel_rfl) (by kernel_rfl) (door_met3 os _)) ?_
  intro W base args ds gs before hval0 hW _ _ hL _
  have hTab := tab_of3 hL
  have hTab64 := tab64_of3 hL
  have hval : ∀ (j : Nat) t v, Tryd.f3.params[j]? = some t → args[j]? = some v → Value.okWide Tryd.prog W .any base t v := hval0
  have hW' := hW
  obtain ⟨p, q, hA0, hV, rfl, hfz, hnd⟩ := hW
  have hA : DataW.TrodAll enc Tryd.prog W 0 (fun _ => true) true Tryd.f3.params.toList args.toList ds p := hA0
  rw [Tryd.params3] at hA hval
  obtain ⟨v0, vs0, d0, ds0, p0, q0, hargs, rfl, rfl, h0, r0⟩ := trodAll_cons hA
  obtain ⟨v1, vs1, d1, ds1, p1, q1, rfl, rfl, rfl, h1, r1⟩ := trodAll_cons r0
  obtain ⟨v2, vs2, d2, ds2, p2, q2, rfl, rfl, rfl, h2, r2⟩ := trodAll_cons r1
  obtain ⟨rfl, rfl, rfl⟩ := trodAll_nil r2
  obtain rfl : args = #[v0, v1, v2] := by cases args; simp_all
  obtain ⟨rfl, rfl⟩ := trodVars_none hV
  have k0 := h0
  have lt0 : ∀ x ∈ p0, x.block < W.heap.size := by obtain ⟨m, hm⟩ := k0; exact DataW.trod_lt m _ _ _ hm
  obtain ⟨I0, N0, c0, rfl, s0, w0⟩ := cell_of (hval 0 26 v0 rfl rfl) h0
  have k1 := h1
  have lt1 : ∀ x ∈ p1, x.block < W.heap.size := by obtain ⟨m, hm⟩ := k1; exact DataW.trod_lt m _ _ _ hm
  obtain ⟨I1, N1, c1, rfl, s1, w1⟩ := cell_of (hval 1 26 v1 rfl rfl) h1
  have k2 := h2
  have lt2 : ∀ x ∈ p2, x.block < W.heap.size := by obtain ⟨m, hm⟩ := k2; exact DataW.trod_lt m _ _ _ hm
  obtain ⟨I2, N2, c2, rfl, s2, w2⟩ := cell_of (hval 2 26 v2 rfl rfl) h2
  clear hA0 hval0
  refine (walk I0 N0 c0 I1 N1 c1 I2 N2 c2 W s0 w0 s1 w1 s2 w2 hTab hTab64).mono fun e W' ⟨he, bel⟩ => ?_
  subst he
  exact ⟨_, rfl, _, _, _, [], _, [], hW', trodAll_mk1 (shut_bool Tryd.underlying4 _), (trodAll_cons_mk (Below.trod laidOut2 (by kernel_rfl) (of_decide_eq_true (by kernel_rfl)) k0 bel lt0) (trodAll_cons_mk (Below.trod laidOut2 (by kernel_rfl) (of_decide_eq_true (by kernel_rfl)) k1 bel lt1) (trodAll_cons_mk (Below.trod laidOut2 (by kernel_rfl) (of_decide_eq_true (by kernel_rfl)) k2 bel lt2) trodAll_mk0))), rfl, bel.frame _, fun h => by cases h⟩

theorem over : Rows.aggOrdersRow.holds Tryd.pinned (OpenSpec.ofChange Rows.aggOrdersSpec) :=
  OpenClaim.holds_of_wide 3 Tryd.f3 rfl rfl rfl rfl rfl rfl rfl ⟨rfl, rfl, rfl, rfl, rfl⟩ rfl rfl rfl rfl rfl (by kernel_rfl) Tryd.func3 (by kernel_rfl)
    (of_decide_eq_true (by kernel_rfl)) (by unfold Func.isWrapper; first | (rw [if_pos (by decide +kernel)]; kernel_rfl) | (rw [if_neg (by decide +kernel)]; exact ⟨rfl, rfl⟩))
    (fun os started H enc _ => lifted os started H enc)
theorem row_holds : Rows.AggOrdersSaid := over
end Go.Proofs.YtigikgphipebiaaDoor.aggOrders
namespace Go.Proofs.YtigikgphipebiaaDoor
/-- The statement: the tied card. -/
theorem aggOrders_holds : Rows.AggOrdersCardSaid :=
  Claim7.holds_tied_plain_at .later [] [.data, .data] true _ false
    aggOrders.row_holds (fun _ h => by cases h) (by kernel_rfl) (fun _ h => by cases h) aggOrders_row_tie rfl ⟨rfl, rfl⟩ (by kernel_rfl) rfl
    (fun f fn hf hfn => by
      obtain rfl : f = 3 := Option.some.inj ((show Tryd.prog.funcNamed "bushel/bushellaw14.AggOrders" = some 3 by kernel_rfl).symm.trans hf) |>.symm
      obtain rfl : fn = Tryd.f3 := (Option.some.inj (Tryd.func3.symm.trans hfn)).symm
      exact ⟨by kernel_rfl, fun j t ht => by
        rw [Tryd.params3] at ht
        have hm : t ∈ [26, 26, 26] := by simpa using Array.mem_of_getElem? ht
        have hall : ([26, 26, 26].all fun u => !Tryd.prog.wantsStandIn u) = true := by kernel_rfl
        exact (show Tryd.prog.wantsStandIn t = false by simpa using List.all_eq_true.1 hall t hm)⟩)
    (by kernel_rfl)
#print axioms aggOrders_holds
end Go.Proofs.YtigikgphipebiaaDoor
