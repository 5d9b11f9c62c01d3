/- WholeSums: for every a and b (int64) the statement's function returns true and changes nothing that was there. No condition. -/
import Derived.Test.YtbpdgbahallgoaaRows
import Derived.Test.YtbpdgbahallgoaaAwake1
import Derived.Test.YtbpdgbahallgoaaDivw
import Derived.WalkKit
import Derived.ProofKit
import Derived.OpenShut
import Derived.Below
namespace Go.Proofs.Ytbpdgbahallgoaa.wholeSums
open Go.ChangeShapes Go.WideShapes Go.ChangeAt Go.RowKit
set_option linter.unusedVariables false
theorem own : ownKnob Try.prog.godebug = none := by kernel_rfl
/-- Two numbers' variables, read. -/
abbrev Four (R : Nat) (a b c d : Value) (w' : World) : Prop := w'.cell? ⟨R, 0, none⟩ = some a ∧ w'.cell? ⟨R, 1, none⟩ = some b ∧ w'.cell? ⟨R + 1, 0, none⟩ = some c ∧ w'.cell? ⟨R + 1, 1, none⟩ = some d
theorem Four.call {R : Nat} {a b c d : Value} {w1 w2 : World} (h : Four R a b c d w1) (hb : Below w1.heap.size w1 w2) : Four R a b c d w2 := ⟨cell_later hb h.1, cell_later hb h.2.1, cell_later hb h.2.2.1, cell_later hb h.2.2.2⟩
theorem abs_num {w : World} {u t : Value} {z : Int} (h : IsNum w (.agg #[u, t]) z) : IsNum w (.agg #[.bool false, t]) (z.natAbs : Int) := by
  obtain ⟨b, s, d, e, h2, h3, h4, h5, h6, h7⟩ := h
  simp only [Value.agg.injEq, Array.mk.injEq, List.cons.injEq, and_true] at e
  obtain ⟨rfl, rfl⟩ := e
  refine ⟨false, t, d, rfl, h2, h3, h4, h5, (fun e => by cases e), ?_⟩
  have := (val_range h4).1
  cases b <;> simp [signed] at h7 ⊢ <;> omega
set_option maxRecDepth 100000 in
set_option maxHeartbeats 1000000 in
theorem walk (a b : Int) (w0 : (Lit.int .i64 a).wf = true) (w1 : (Lit.int .i64 b).wf = true) (w : World) :
    Calls Try.prog 3 #[.int .i64 a, .int .i64 b] w fun e w' => e = .returned (.bool true) ∧ Below w.heap.size w w' := by
  obtain ⟨a1, a2⟩ := bounds_i64 w0
  obtain ⟨b1, b2⟩ := bounds_i64 w1
  clear w0 w1
  have za : Sized 8 a := sized8 (by omega) (by omega)
  have zb : Sized 8 b := sized8 (by omega) (by omega)
  have zs : Sized 8 (a + b) := sized8 (by omega) (by omega)
  have zd : Sized 8 (a - b) := sized8 (by omega) (by omega)
  have HO := Lib.hid (fun (x : Int) (w1 : World) (h1 : -9223372036854775808 ≤ x) (h2 : x ≤ 9223372036854775807) => of_any x w1 h1 h2)
  have HAdd := Lib.hid (fun w1 => add_any a b a1 a2 b1 b2 w1)
  have HSub := Lib.hid (fun w1 => sub_any a b a1 a2 b1 b2 w1)
  have HHalf := Lib.hid (fun w1 => half_any a b a1 a2 b1 b2 w1)
  have HAbs := Lib.hid (fun w1 => abs_any a a1 a2 w1)
  have NA := Lib.hid (fun w1 u v (hu : IsNum w1 u a) (hv : IsNum w1 v b) => num_add u v a b 8 w1 hu hv za zb (by decide))
  have NS := Lib.hid (fun w1 u v (hu : IsNum w1 u a) (hv : IsNum w1 v b) => num_sub u v a b 8 w1 hu hv za zb (by decide))
  have hfd : (a + b).fdiv 2 = (a + b) / 2 := Int.fdiv_eq_ediv_of_nonneg _ (by decide)
  have ND := Lib.hid (fun w1 u v (hu : IsNum w1 u (a + b)) (hv : IsNum w1 v 2) => (hfd ▸ num_div u v (a + b) 2 8 w1 hu hv zs (sized8 (by decide) (by decide)) (by decide) (by decide) : Calls Try.prog 11 #[u, v] w1 (DivPost w1 ((a + b) / 2) ((a + b).fmod 2))))
  have IS := Lib.hid (fun w1 v (hv : IsNum w1 v (a + b)) => is_any v _ 8 w1 hv zs (by decide) (by decide))
  have ID := Lib.hid (fun w1 v (hv : IsNum w1 v (a - b)) => is_any v _ 8 w1 hv zd (by decide) (by decide))
  have II := Lib.hid (fun w1 v (hv : IsNum w1 v ((a + b) / 2)) => num_int v _ w1 hv (by omega) (by omega))
  have UI := Lib.hid (fun w1 v (hv : IsNum w1 v (a.natAbs : Int)) => (by have := num_uint v _ w1 hv (by omega) (by omega); rwa [Int.natAbs_natCast] at this : Calls Try.prog 19 #[v] w1 fun e w' => e = .returned (.int .u64 (a.natAbs : Int)) ∧ Below w1.heap.size w1 w'))
  have hna : 0 ≤ (a.natAbs : Int) := by omega
  clear za zb zs zd hfd
  go_enter Try.func3, Try.ntmps3
  go_wp2_with fail
  refine (HO.out a _ a1 a2).mono ?_; rintro e w2 ⟨x, rfl, hx, hb2⟩
  go_wp2_with fail
  refine (HO.out b _ b1 b2).mono ?_; rintro e w3 ⟨y, rfl, hy, hb3⟩
  have hx := hx.below hb3
  have hE := Lib.hid (hb2.trans (hb3.mono hb2.size))
  clear hb2 hb3
  obtain ⟨xb, xp, xl, xc, rfl⟩ := hx.shape
  obtain ⟨yb, yp, yl, yc, rfl⟩ := hy.shape
  have HX := Lib.hid hx
  have HY := Lib.hid hy
  clear hx hy
  go_wp2_with fail
  refine (HAdd.out _).mono ?_; rintro e w' ⟨rfl, rfl⟩
  go_wp2_with fail
  refine (HSub.out _).mono ?_; rintro e w' ⟨rfl, rfl⟩
  generalize clip (a + b) = c1 at *
  generalize fitB (a + b) = t1 at *
  generalize clip (a - b) = c2 at *
  generalize fitB (a - b) = t2 at *
  have hb4 := below_two w3 (.cells #[.bool xb, .slice xp xl xc] 24) (.cells #[.bool yb, .slice yp yl yc] 24)
  have hE4 := Lib.hid (hE.out.trans (hb4.mono hE.out.size))
  have HX4 := Lib.hid (HX.out.below hb4)
  have HY4 := Lib.hid (HY.out.below hb4)
  clear hb4 HX HY hE
  go_wp2_with fail
  have hF4 : Four w3.heap.size (.bool xb) (.slice xp xl xc) (.bool yb) (.slice yp yl yc) ((w3.alloc (.cells #[.bool xb, .slice xp xl xc] 24)).alloc (.cells #[.bool yb, .slice yp yl yc] 24)) := ⟨by simp [go_sem], by simp [go_sem], by simp [go_sem], by simp [go_sem]⟩
  generalize (w3.alloc (.cells #[.bool xb, .slice xp xl xc] 24)).alloc (.cells #[.bool yb, .slice yp yl yc] 24) = w4 at *
  refine (NA.out _ _ _ HX4.out HY4.out).mono ?_; rintro e w5 ⟨s1, rfl, hs1, hb5⟩
  go_wp2_with fail
  refine (nat_any 2 _ (by decide) (by decide)).mono ?_; rintro e w6 ⟨o2, rfl, ho2, hb6⟩
  have hb46 := hb5.trans (hb6.mono hb5.size)
  have hs1 := hs1.below hb6
  clear hb5 hb6
  go_wp2_with fail
  refine (ND.out _ _ _ hs1 ho2).mono ?_; rintro e w7 ⟨v1, v2, rfl, hv1, hv2, hb7⟩
  have hb47 := hb46.trans (hb7.mono hb46.size)
  obtain ⟨hb, hp, hl, hc, rfl⟩ := hv1.shape
  obtain ⟨kb, kp, kl, kc, rfl⟩ := hv2.shape
  have hb8 := below_two w7 (.cells #[.bool hb, .slice hp hl hc] 24) (.cells #[.bool kb, .slice kp kl kc] 24)
  have hb48 := hb47.trans (hb8.mono hb47.size)
  have HV := Lib.hid (hv1.below hb8)
  have HX8 := Lib.hid (HX4.out.below hb48)
  have HY8 := Lib.hid (HY4.out.below hb48)
  have hE8 := Lib.hid (hE4.out.trans (hb48.mono hE4.out.size))
  have hF8 := Four.call hF4 hb48
  clear hs1 ho2 hv1 hv2 hb46 hb7 hb47 hb8 hb48 HX4 HY4 hE4 hF4 ND
  go_wp2_with fail
  have hG8 : ((w7.alloc (.cells #[.bool hb, .slice hp hl hc] 24)).alloc (.cells #[.bool kb, .slice kp kl kc] 24)).cell? ⟨w7.heap.size, 0, none⟩ = some (.bool hb) ∧ ((w7.alloc (.cells #[.bool hb, .slice hp hl hc] 24)).alloc (.cells #[.bool kb, .slice kp kl kc] 24)).cell? ⟨w7.heap.size, 1, none⟩ = some (.slice hp hl hc) := ⟨by simp [go_sem], by simp [go_sem]⟩
  generalize (w7.alloc (.cells #[.bool hb, .slice hp hl hc] 24)).alloc (.cells #[.bool kb, .slice kp kl kc] 24) = w8 at *
  have hk : Four w3.heap.size (.bool xb) (.slice xp xl xc) (.bool yb) (.slice yp yl yc) w8.drew ∧ w8.drew.cell? ⟨w7.heap.size, 0, none⟩ = some (.bool hb) ∧ w8.drew.cell? ⟨w7.heap.size, 1, none⟩ = some (.slice hp hl hc) := ⟨Four.call hF8 (Below.refl _ _).drew, by simp [hG8.1], by simp [hG8.2]⟩
  have hBw : Below w8.heap.size w8 w8.drew := (Below.refl _ _).drew
  go_region_held3 (fun w' => (w'.cell? ⟨w3.heap.size, 0, none⟩ = some (.bool xb) ∧ w'.cell? ⟨w3.heap.size, 1, none⟩ = some (.slice xp xl xc) ∧ w'.cell? ⟨w3.heap.size + 1, 0, none⟩ = some (.bool yb) ∧ w'.cell? ⟨w3.heap.size + 1, 1, none⟩ = some (.slice yp yl yc)) ∧ w'.cell? ⟨w7.heap.size, 0, none⟩ = some (.bool hb) ∧ w'.cell? ⟨w7.heap.size, 1, none⟩ = some (.slice hp hl hc))
    (with_reducible exact hk)
    (first
      | (go_at_call 12; refine (NA.out _ _ _ (HX8.out.below hBw) (HY8.out.below hBw)).mono ?_; rintro e w9 ⟨s3, rfl, hs3, hb9⟩; have hk := And.intro (Four.call hk.1 hb9) (And.intro (cell_later hb9 hk.2.1) (cell_later hb9 hk.2.2)); have hBw := hBw.trans (hb9.mono hBw.size))
      | (go_at_call_of 14 s3; refine (IS.out _ _ hs3).mono ?_; rintro e w10 ⟨rfl, hb10⟩; have hk := And.intro (Four.call hk.1 hb10) (And.intro (cell_later hb10 hk.2.1) (cell_later hb10 hk.2.2)); have hBw := hBw.trans (hb10.mono hBw.size))
      | (go_at_call 15; refine (NS.out _ _ _ (HX8.out.below hBw) (HY8.out.below hBw)).mono ?_; rintro e w11 ⟨s4, rfl, hs4, hb11⟩; have hk := And.intro (Four.call hk.1 hb11) (And.intro (cell_later hb11 hk.2.1) (cell_later hb11 hk.2.2)); have hBw := hBw.trans (hb11.mono hBw.size))
      | (go_at_call_of 14 s4; refine (ID.out _ _ hs4).mono ?_; rintro e w12 ⟨rfl, hb12⟩; have hk := And.intro (Four.call hk.1 hb12) (And.intro (cell_later hb12 hk.2.1) (cell_later hb12 hk.2.2)); have hBw := hBw.trans (hb12.mono hBw.size))
      | (go_at_call 16; refine (HHalf.out _).mono ?_; rintro e w' ⟨rfl, rfl⟩)
      | (go_at_call 17; refine (II.out _ _ (HV.out.below hBw)).mono ?_; rintro e w13 ⟨rfl, hb13⟩; have hk := And.intro (Four.call hk.1 hb13) (And.intro (cell_later hb13 hk.2.1) (cell_later hb13 hk.2.2)); have hBw := hBw.trans (hb13.mono hBw.size)))
  have hE13 := Lib.hid (hE8.out.trans (hBw.mono hE8.out.size))
  have hU := Lib.hid (abs_num (HX8.out.below hBw))
  have hx13 := hk.1.2.1
  clear hk hBw hb9 hb10 hb11 hb12 hb13 hs3 hs4 hF8 hG8 HX8 HY8 HV NA NS IS ID II HHalf hE8
  go_wp2_with fail
  have hk : w13.drew.cell? ⟨w3.heap.size, 1, none⟩ = some (.slice xp xl xc) := by simp [hx13]
  have hBw : Below w13.heap.size w13 w13.drew := (Below.refl _ _).drew
  go_region_held3 (fun w' => w'.cell? ⟨w3.heap.size, 1, none⟩ = some (.slice xp xl xc))
    (with_reducible exact hk)
    (first
      | (go_at_call 18; refine (HAbs.out _).mono ?_; rintro e w' ⟨rfl, rfl⟩)
      | (go_at_call 19; refine (UI.out _ _ (hU.out.below hBw)).mono ?_; rintro e w14 ⟨rfl, hb14⟩; have hk := cell_later hb14 hk; have hBw := hBw.trans (hb14.mono hBw.size))
      | (go_at_call 20; refine (awake_any _).mono ?_; rintro e w15 ⟨rfl, hb15⟩; have hk := cell_later hb15 hk; have hBw := hBw.trans (hb15.mono hBw.size)))
  all_goals
    have hE := hE13.out.trans (hBw.mono hE13.out.size)
    clear hk hBw
    go_wp2_with fail
    go_ret
    exact ⟨ret_bool (by simp), hE⟩
set_option maxRecDepth 100000 in
theorem lifted (os : Os) (started : os.Started) (H : Type) (enc : TypeId × Value → H) :
    ReturnsInHanded {} Try.checked os 3 .any (Rows.wholeSumsSpec.pre6 enc Try.prog Try.f3 Rows.wholeSumsRow.domain false) (Rows.wholeSumsSpec.post enc Try.prog Try.f3 false true false false) := by
  refine returnsInHanded_of_change (C := Try.checked) own started (by kernel_rfl) Try.func3
    (ChangeSpec.witness6 (enc := enc) (C := Try.checked) false ⟨#[], #[.int .i64 0, .int .i64 0], []⟩ 8 (by kernel_rfl) (by kernel_rfl) (by kernel_rfl) (by kernel_rfl)) ?_
  intro W base args ds gs before hval0 hW hcnd _
  have hval : ∀ (j : Nat) t v, Try.f3.params[j]? = some t → args[j]? = some v → Value.okWide Try.prog W .any base t v := hval0
  have hW' := hW
  obtain ⟨p, q, hA0, hV, rfl, hfz, hnd⟩ := hW
  have hA : DataW.TrodAll enc Try.prog W 0 (fun _ => true) true Try.f3.params.toList args.toList ds p := hA0
  rw [Try.params3] at hA hval
  obtain ⟨v0, vs0, d0, ds0, p0, q0, hargs, rfl, rfl, h0, r0⟩ := trodAll_cons hA
  obtain ⟨v1, vs1, d1, ds1, p1, q1, rfl, rfl, rfl, h1, r1⟩ := trodAll_cons r0
  obtain ⟨rfl, rfl, rfl⟩ := trodAll_nil r1
  obtain rfl : args = #[v0, v1] := by cases args; simp_all
  obtain ⟨rfl, rfl⟩ := trodVars_none hV
  obtain ⟨a0, rfl, rfl, rfl, w0⟩ := open_int Try.underlying2 (hval 0 2 v0 rfl rfl) h0
  obtain ⟨a1, rfl, rfl, rfl, w1⟩ := open_int Try.underlying2 (hval 1 2 v1 rfl rfl) h1
  clear hA0 hval0
  simp only [List.append_nil] at hW'
  refine (walk a0 a1 w0 w1 W).mono fun e W' ⟨he, bel⟩ => ?_
  subst he
  exact ⟨_, rfl, _, _, _, [], _, [], hW', trodAll_mk1 (shut_bool Try.underlying4 _), (trodAll_cons_mk (shut_int Try.underlying2 w0) (trodAll_cons_mk (shut_int Try.underlying2 w1) trodAll_mk0)), rfl, bel.frame _, fun h => by cases h⟩

theorem over : Rows.wholeSumsRow.holds Try.pinned (OpenSpec.ofChange Rows.wholeSumsSpec) :=
  OpenClaim.holds_of_wide 3 Try.f3 rfl rfl rfl rfl rfl rfl rfl ⟨rfl, rfl, rfl, rfl, rfl⟩ rfl rfl rfl rfl rfl (by kernel_rfl) Try.func3 (by kernel_rfl)
    (of_decide_eq_true (by kernel_rfl)) (by unfold Func.isWrapper; first | (rw [if_pos (by decide +kernel)]; kernel_rfl) | (rw [if_neg (by decide +kernel)]; exact ⟨rfl, rfl⟩))
    (fun os started H enc _ => lifted os started H enc)
end Go.Proofs.Ytbpdgbahallgoaa.wholeSums
namespace Go.Proofs.Ytbpdgbahallgoaa
/-- The statement. -/
theorem wholeSums_holds : Rows.WholeSumsSaid := wholeSums.over
#print axioms wholeSums_holds
end Go.Proofs.Ytbpdgbahallgoaa
