/- CodeOrders: for any two things the statement's function returns true and changes nothing that was there. No condition. -/
import Derived.Test.YtggleiemegeaaaaRows
import Derived.Test.YtggleiemegeaaaaCodep
import Derived.WalkKit
import Derived.ProofKit
import Derived.OpenShut
import Derived.Below
import Derived.Deep.RegionHeld3
namespace Go.Proofs.Ytggleiemegeaaaa.codeOrders
set_option maxRecDepth 100000
open Go.ChangeShapes Go.WideShapes Go.ChangeAt Go.RowKit Go.Joins
set_option linter.unusedVariables false
theorem own : ownKnob Try.prog.godebug = none := by kernel_rfl
theorem laidOut : laidOutB Try.prog = true := by kernel_rfl
set_option maxHeartbeats 16000000 in
theorem walk (x0 n0 : Int) (f0 : Nat) (s0 : ByteArray) (x1 n1 : Int) (f1 : Nat) (s1 : ByteArray) (w : World)
    (wx0 : (Lit.int .u64 x0).wf = true) (wn0 : (Lit.int .i64 n0).wf = true) (wf0 : (Lit.float .f64 f0).wf = true) (ws0 : s0.size ≤ maxLen)
    (wx1 : (Lit.int .u64 x1).wf = true) (wn1 : (Lit.int .i64 n1).wf = true) (wf1 : (Lit.float .f64 f1).wf = true) (ws1 : s1.size ≤ maxLen) :
    Calls Try.prog 4 #[.agg #[.int .u64 x0, .int .i64 n0, .float .f64 f0, .string s0], .agg #[.int .u64 x1, .int .i64 n1, .float .f64 f1, .string s1]] w fun e w' => e = .returned (.bool true) ∧ Below w.heap.size w w' := by
  have HA := Lib.hid (fun w => awake7_any w)
  obtain ⟨X0, rfl, hx0⟩ := u64_of wx0
  obtain ⟨X1, rfl, hx1⟩ := u64_of wx1
  have hn0 := i64_of wn0
  have hn1 := i64_of wn1
  have hf0 := w64_of wf0
  have hf1 := w64_of wf1
  have HBx := Lib.hid (fun o1 o2 => (below_one w o1).alloc (by simp) o2)
  clear wx0 wx1 wn0 wn1 wf0 wf1
  by_cases h0 : 300 < s0.size
  · have i0 : (300 : Int) < (s0.size : Int) := by omega
    go_enter Try.func4, Try.ntmps4
    go_wp2_with fail
    refine (HA.out _).mono ?_; rintro e w1 ⟨rfl, hb⟩
    have HB := Lib.hid ((HBx.out _ _).trans (hb.mono (HBx.out _ _).size))
    clear hb
    go_wp2_with fail
    go_ret
    exact ⟨rfl, HB.out⟩
  · have i0 : ¬ (300 : Int) < (s0.size : Int) := by omega
    by_cases h1 : 300 < s1.size
    · have i1 : (300 : Int) < (s1.size : Int) := by omega
      go_enter Try.func4, Try.ntmps4
      go_wp2_with fail
      refine (HA.out _).mono ?_; rintro e w1 ⟨rfl, hb⟩
      have HB := Lib.hid ((HBx.out _ _).trans (hb.mono (HBx.out _ _).size))
      clear hb
      go_wp2_with fail
      go_ret
      exact ⟨rfl, HB.out⟩
    · have i1 : ¬ (300 : Int) < (s1.size : Int) := by omega
      obtain ⟨k0, e0⟩ := Int.eq_ofNat_of_zero_le (key_range hf0).1
      obtain ⟨k1, e1⟩ := Int.eq_ofNat_of_zero_le (key_range hf1).1
      have g0 := (key_range hf0).2
      have g1 := (key_range hf1).2
      have HU0 := Lib.hid (fun w => pU_any X0 w hx0)
      have HU1 := Lib.hid (fun w => pU_any X1 w hx1)
      have HI0 := Lib.hid (fun w => pI_any n0 w hn0.1 hn0.2)
      have HI1 := Lib.hid (fun w => pI_any n1 w hn1.1 hn1.2)
      have HF0 := Lib.hid (fun w => pF_any f0 k0 w hf0 e0)
      have HF1 := Lib.hid (fun w => pF_any f1 k1 w hf1 e1)
      have HT0 := Lib.hid (fun w => pT_any s0 w (by omega))
      have HT1 := Lib.hid (fun w => pT_any s1 w (by omega))
      have HRf := Lib.hid (fun w => rless_any f0 f1 w hf0 hf1)
      have hLu := fun u v w a b => pless_bytes u v (encU X0) (encU X1) w a b (encU_bt hx0) (encU_bt hx1)
      have hLi := fun u v w a b => pless_bytes u v (encI n0) (encI n1) w a b (encI_bt hn0.1 hn0.2) (encI_bt hn1.1 hn1.2)
      have hLf := fun u v w a b => pless_bytes u v (encF k0) (encF k1) w a b (bigN_bt _ _) (bigN_bt _ _)
      have hLt := fun u v w a b => pless_bytes u v (encT (ofS s0)) (encT (ofS s1)) w a b (encT_bt (ofS_bt _)) (encT_bt (ofS_bt _))
      have q1 : lessL (encU X0) (encU X1) = decide ((X0 : Int) < (X1 : Int)) := by rw [less_U hx0 hx1, decide_eq_decide]; omega
      have q2 : lessL (encI n0) (encI n1) = decide (n0 < n1) := less_I hn0.1 hn0.2 hn1.1 hn1.2
      have q3 : lessL (encF k0) (encF k1) = lessB f0 f1 := by
        unfold lessB; rw [less_F (by omega) (by omega), e0, e1, decide_eq_decide]; omega
      have q4 : lessL (encT (ofS s0)) (encT (ofS s1)) = Op.bytesLess s0.toList s1.toList := by rw [less_T (ofS_bt _) (ofS_bt _), less_ofS]
      rw [q1] at hLu
      rw [q2] at hLi
      rw [q3] at hLf
      rw [q4] at hLt
      have HLu := Lib.hid hLu
      have HLi := Lib.hid hLi
      have HLf := Lib.hid hLf
      have HLt := Lib.hid hLt
      clear q1 q2 q3 q4 hLu hLi hLf hLt e0 e1 g0 g1
      generalize encU X0 = l1 at *
      generalize encU X1 = l2 at *
      generalize encI n0 = l3 at *
      generalize encI n1 = l4 at *
      generalize encF k0 = l5 at *
      generalize encF k1 = l6 at *
      generalize encT (ofS s0) = l7 at *
      generalize encT (ofS s1) = l8 at *
      generalize lessB f0 f1 = bf at *
      go_enter Try.func4, Try.ntmps4
      go_upto_region 3 with fail
      have hBw := Lib.hid ((HBx.out (.cells #[.int .u64 (X0 : Int), .int .i64 n0, .float .f64 f0, .string s0] 25) (.cells #[.int .u64 (X1 : Int), .int .i64 n1, .float .f64 f1, .string s1] 25)).drew)
      have hk : (fun w' => w'.cell? ⟨w.heap.size, 0, none⟩ = some (.int .u64 (X0 : Int)) ∧ w'.cell? ⟨w.heap.size, 1, none⟩ = some (.int .i64 n0) ∧ w'.cell? ⟨w.heap.size, 2, none⟩ = some (.float .f64 f0) ∧ w'.cell? ⟨w.heap.size, 3, none⟩ = some (.string s0) ∧ w'.cell? ⟨w.heap.size + 1, 0, none⟩ = some (.int .u64 (X1 : Int)) ∧ w'.cell? ⟨w.heap.size + 1, 1, none⟩ = some (.int .i64 n1) ∧ w'.cell? ⟨w.heap.size + 1, 2, none⟩ = some (.float .f64 f1) ∧ w'.cell? ⟨w.heap.size + 1, 3, none⟩ = some (.string s1)) ((w.alloc (.cells #[.int .u64 (X0 : Int), .int .i64 n0, .float .f64 f0, .string s0] 25)).alloc (.cells #[.int .u64 (X1 : Int), .int .i64 n1, .float .f64 f1, .string s1] 25)).drew := by simp [go_sem]
      have hBw := hBw.out
      simp only at hk
      go_region_held3 (fun w' => w'.cell? ⟨w.heap.size, 0, none⟩ = some (.int .u64 (X0 : Int)) ∧ w'.cell? ⟨w.heap.size, 1, none⟩ = some (.int .i64 n0) ∧ w'.cell? ⟨w.heap.size, 2, none⟩ = some (.float .f64 f0) ∧ w'.cell? ⟨w.heap.size, 3, none⟩ = some (.string s0) ∧ w'.cell? ⟨w.heap.size + 1, 0, none⟩ = some (.int .u64 (X1 : Int)) ∧ w'.cell? ⟨w.heap.size + 1, 1, none⟩ = some (.int .i64 n1) ∧ w'.cell? ⟨w.heap.size + 1, 2, none⟩ = some (.float .f64 f1) ∧ w'.cell? ⟨w.heap.size + 1, 3, none⟩ = some (.string s1)) (with_reducible exact hk)
        (first
          | (go_at_call 8; (with_reducible refine (HU0.out _).mono ?_); rintro e u1 ⟨⟨v1, rfl, ho⟩, hb⟩; have hi1 := Lib.hid (Ints.own ho); have hk := eight_later hb hk; have hBw := hBw.trans (hb.mono hBw.size); obtain ⟨pa1, pl1, pc1, rfl⟩ := own_slice3 ho; clear ho hb)
          | (go_at_call 8; (with_reducible refine (HU1.out _).mono ?_); rintro e u2 ⟨⟨v2, rfl, ho⟩, hb⟩; have hi2 := Lib.hid (Ints.own ho); have hi1' := Lib.hid (hi1.out.below hb); have hk := eight_later hb hk; have hBw := hBw.trans (hb.mono hBw.size); obtain ⟨pa2, pl2, pc2, rfl⟩ := own_slice3 ho; clear ho hb)
          | (go_at_call 21; (with_reducible refine (HLu.out _ _ _ hi1'.out hi2.out).mono ?_); rintro e u3 ⟨rfl, rfl⟩)
          | (go_at_call 9; (with_reducible refine (HI0.out _).mono ?_); rintro e u4 ⟨⟨v4, rfl, ho⟩, hb⟩; have hi4 := Lib.hid (Ints.own ho); have hk := eight_later hb hk; have hBw := hBw.trans (hb.mono hBw.size); obtain ⟨pa4, pl4, pc4, rfl⟩ := own_slice3 ho; clear ho hb)
          | (go_at_call 9; (with_reducible refine (HI1.out _).mono ?_); rintro e u5 ⟨⟨v5, rfl, ho⟩, hb⟩; have hi5 := Lib.hid (Ints.own ho); have hi4' := Lib.hid (hi4.out.below hb); have hk := eight_later hb hk; have hBw := hBw.trans (hb.mono hBw.size); obtain ⟨pa5, pl5, pc5, rfl⟩ := own_slice3 ho; clear ho hb)
          | (go_at_call 21; (with_reducible refine (HLi.out _ _ _ hi4'.out hi5.out).mono ?_); rintro e u6 ⟨rfl, rfl⟩)
          | (go_at_call 10; (with_reducible refine (HF0.out _).mono ?_); rintro e u7 ⟨⟨v7, rfl, ho⟩, hb⟩; have hi7 := Lib.hid (Ints.own ho); have hk := eight_later hb hk; have hBw := hBw.trans (hb.mono hBw.size); obtain ⟨pa7, pl7, pc7, rfl⟩ := own_slice3 ho; clear ho hb)
          | (go_at_call 10; (with_reducible refine (HF1.out _).mono ?_); rintro e u8 ⟨⟨v8, rfl, ho⟩, hb⟩; have hi8 := Lib.hid (Ints.own ho); have hi7' := Lib.hid (hi7.out.below hb); have hk := eight_later hb hk; have hBw := hBw.trans (hb.mono hBw.size); obtain ⟨pa8, pl8, pc8, rfl⟩ := own_slice3 ho; clear ho hb)
          | (go_at_call 21; (with_reducible refine (HLf.out _ _ _ hi7'.out hi8.out).mono ?_); rintro e u9 ⟨rfl, rfl⟩)
          | (go_at_call 22; (with_reducible refine (HRf.out _).mono ?_); rintro e u10 ⟨rfl, hd⟩; have hb := hd.below; have hk := eight_later hb hk; have hBw := hBw.trans (hb.mono hBw.size); clear hd hb)
          | (go_at_call 11; (with_reducible refine (HT0.out _).mono ?_); rintro e u11 ⟨⟨v11, rfl, ho⟩, hb⟩; have hi11 := Lib.hid (Ints.own ho); have hk := eight_later hb hk; have hBw := hBw.trans (hb.mono hBw.size); obtain ⟨pa11, pl11, pc11, rfl⟩ := own_slice3 ho; clear ho hb)
          | (go_at_call 11; (with_reducible refine (HT1.out _).mono ?_); rintro e u12 ⟨⟨v12, rfl, ho⟩, hb⟩; have hi12 := Lib.hid (Ints.own ho); have hi11' := Lib.hid (hi11.out.below hb); have hk := eight_later hb hk; have hBw := hBw.trans (hb.mono hBw.size); obtain ⟨pa12, pl12, pc12, rfl⟩ := own_slice3 ho; clear ho hb)
          | (go_at_call 21; (with_reducible refine (HLt.out _ _ _ hi11'.out hi12.out).mono ?_); rintro e u13 ⟨rfl, rfl⟩)
          | (go_at_call 7; (with_reducible refine (HA.out _).mono ?_); rintro e u14 ⟨rfl, hb⟩; have hk := eight_later hb hk; have hBw := hBw.trans (hb.mono hBw.size); clear hb))
      have hE := Lib.hid hBw
      clear hk hBw
      go_wp2_with fail
      go_ret
      exact ⟨by rfl, hE.out⟩
set_option maxRecDepth 100000 in
theorem lifted (os : Os) (started : os.Started) (H : Type) (enc : TypeId × Value → H) :
    ReturnsInHanded {} Try.checked os 4 .any (Rows.codeOrdersSpec.pre6 enc Try.prog Try.f4 Rows.codeOrdersRow.domain false) (Rows.codeOrdersSpec.post enc Try.prog Try.f4 false true false false) := by
  refine returnsInHanded_of_change (C := Try.checked) own started (by kernel_rfl) Try.func4
    (ChangeSpec.witness6 (enc := enc) (C := Try.checked) false ⟨#[], #[.agg #[.int .u64 0, .int .i64 0, .float .f64 0, .string ByteArray.empty], .agg #[.int .u64 0, .int .i64 0, .float .f64 0, .string ByteArray.empty]], []⟩ 8 (by kernel_rfl) (by kernel_rfl) (by kernel_rfl) (by kernel_rfl)) ?_
  intro W base args ds gs before hval0 hW hcnd _
  have hval : ∀ (j : Nat) t v, Try.f4.params[j]? = some t → args[j]? = some v → Value.okWide Try.prog W .any base t v := hval0
  have hW' := hW
  obtain ⟨p, q, hA0, hV, rfl, hfz, hnd⟩ := hW
  have hA : DataW.TrodAll enc Try.prog W 0 (fun _ => true) true Try.f4.params.toList args.toList ds p := hA0
  rw [Try.params4] at hA hval
  obtain ⟨v0, vs0, d0, ds0, p0, q0, hargs, rfl, rfl, h0, r0⟩ := trodAll_cons hA
  obtain ⟨v1, vs1, d1, ds1, p1, q1, rfl, rfl, rfl, h1, r1⟩ := trodAll_cons r0
  obtain ⟨rfl, rfl, rfl⟩ := trodAll_nil r1
  obtain rfl : args = #[v0, v1] := by cases args; simp_all
  obtain ⟨rfl, rfl⟩ := trodVars_none hV
  have k0 := h0
  have lt0 : ∀ x ∈ p0, x.block < W.heap.size := by obtain ⟨m, hm⟩ := k0; exact DataW.trod_lt m _ _ _ hm
  obtain ⟨x0, n0, f0, s0, rfl, wx0, wn0, wf0, ws0⟩ : ∃ (x : Int) (n : Int) (f : Nat) (s : ByteArray), v0 = .agg #[.int .u64 x, .int .i64 n, .float .f64 f, .string s] ∧ (Lit.int .u64 x).wf = true ∧ (Lit.int .i64 n).wf = true ∧ (Lit.float .f64 f).wf = true ∧ s.size ≤ maxLen := by
    obtain ⟨u0, u1, u2, u3, y0, y1, y2, y3, m, rfl, -, -, t0, t1, t2, t3⟩ := open_agg4 Try.underlying25 (by kernel_rfl) (by kernel_rfl) (hval 0 25 v0 rfl rfl) h0
    obtain ⟨x, e0, -, wx⟩ := DataW.trod_int Try.underlying22 t0
    obtain ⟨n, e1, -, wn⟩ := DataW.trod_int Try.underlying2 t1
    obtain ⟨f, e2, wf⟩ := trod_float Try.underlying23 t2
    obtain ⟨s, e3, -, ws⟩ := DataW.trod_string Try.underlying9 t3
    cases e0; cases e1; cases e2; cases e3
    exact ⟨x, n, f, s, rfl, wx, wn, wf, ws⟩
  have k1 := h1
  have lt1 : ∀ x ∈ p1, x.block < W.heap.size := by obtain ⟨m, hm⟩ := k1; exact DataW.trod_lt m _ _ _ hm
  obtain ⟨x1, n1, f1, s1, rfl, wx1, wn1, wf1, ws1⟩ : ∃ (x : Int) (n : Int) (f : Nat) (s : ByteArray), v1 = .agg #[.int .u64 x, .int .i64 n, .float .f64 f, .string s] ∧ (Lit.int .u64 x).wf = true ∧ (Lit.int .i64 n).wf = true ∧ (Lit.float .f64 f).wf = true ∧ s.size ≤ maxLen := by
    obtain ⟨u0, u1, u2, u3, y0, y1, y2, y3, m, rfl, -, -, t0, t1, t2, t3⟩ := open_agg4 Try.underlying25 (by kernel_rfl) (by kernel_rfl) (hval 1 25 v1 rfl rfl) h1
    obtain ⟨x, e0, -, wx⟩ := DataW.trod_int Try.underlying22 t0
    obtain ⟨n, e1, -, wn⟩ := DataW.trod_int Try.underlying2 t1
    obtain ⟨f, e2, wf⟩ := trod_float Try.underlying23 t2
    obtain ⟨s, e3, -, ws⟩ := DataW.trod_string Try.underlying9 t3
    cases e0; cases e1; cases e2; cases e3
    exact ⟨x, n, f, s, rfl, wx, wn, wf, ws⟩
  clear hA0 hval0
  refine (walk x0 n0 f0 s0 x1 n1 f1 s1 W wx0 wn0 wf0 ws0 wx1 wn1 wf1 ws1).mono fun e W' ⟨he, bel⟩ => ?_
  subst he
  exact ⟨_, rfl, _, _, _, [], _, [], hW', trodAll_mk1 (shut_bool Try.underlying4 _), (trodAll_cons_mk (Below.trod laidOut (by kernel_rfl) (of_decide_eq_true (by kernel_rfl)) k0 bel lt0) (trodAll_cons_mk (Below.trod laidOut (by kernel_rfl) (of_decide_eq_true (by kernel_rfl)) k1 bel lt1) trodAll_mk0)), rfl, bel.frame _, fun h => by cases h⟩

theorem over : Rows.codeOrdersRow.holds Try.pinned (OpenSpec.ofChange Rows.codeOrdersSpec) :=
  OpenClaim.holds_of_wide 4 Try.f4 rfl rfl rfl rfl rfl rfl rfl ⟨rfl, rfl, rfl, rfl, rfl⟩ rfl rfl rfl rfl rfl (by kernel_rfl) Try.func4 (by kernel_rfl)
    (of_decide_eq_true (by kernel_rfl)) (by unfold Func.isWrapper; first | (rw [if_pos (by decide +kernel)]; kernel_rfl) | (rw [if_neg (by decide +kernel)]; exact ⟨rfl, rfl⟩))
    (fun os started H enc _ => lifted os started H enc)
end Go.Proofs.Ytggleiemegeaaaa.codeOrders
namespace Go.Proofs.Ytggleiemegeaaaa
/-- The statement. -/
theorem codeOrders_holds : Rows.CodeOrdersSaid := codeOrders.over
#print axioms codeOrders_holds
end Go.Proofs.Ytggleiemegeaaaa
