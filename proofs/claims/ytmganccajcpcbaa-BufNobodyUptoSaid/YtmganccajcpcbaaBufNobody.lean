/- BufNobody: for any question that holds at most 1048576 values and letters (the statement's second form) the statement's function returns true and changes nothing that was there. No other condition. -/
import Derived.Test.YtmganccajcpcbaaRows
import Derived.Test.YtmganccajcpcbaaBufr
import Derived.Test.YtmganccajcpcbaaBufi
import Derived.Test.YtmganccajcpcbaaBufs
import Derived.JoinedCond
import Derived.WalkKit
import Derived.ProofKit
import Derived.OpenShut
import Derived.Below
namespace Go.Proofs.Ytmganccajcpcbaa.bufNobody
set_option maxRecDepth 100000
open Go.ChangeShapes Go.WideShapes Go.ChangeAt Go.RowKit
set_option linter.unusedVariables false
theorem own : ownKnob Try.prog.godebug = none := by kernel_rfl
theorem laidOut : laidOutB Try.prog = true := by kernel_rfl
/-- The six cells of a question. -/
def Six (w : World) (B : Nat) (d u i : Int) (f : Nat) (t : ByteArray) (m : Int) : Prop :=
  w.cell? ⟨B, 0, none⟩ = some (.int .i64 d) ∧ w.cell? ⟨B, 1, none⟩ = some (.int .u64 u) ∧ w.cell? ⟨B, 2, none⟩ = some (.int .i64 i) ∧ w.cell? ⟨B, 3, none⟩ = some (.float .f64 f) ∧ w.cell? ⟨B, 4, none⟩ = some (.string t) ∧ w.cell? ⟨B, 5, none⟩ = some (.int .i64 m)
theorem Six.on {w w' : World} {B : Nat} {d u i : Int} {f : Nat} {t : ByteArray} {m : Int} (h : Six w B d u i f t m) (hb : Below w.heap.size w w') : Six w' B d u i f t m :=
  ⟨cell_on hb h.1, cell_on hb h.2.1, cell_on hb h.2.2.1, cell_on hb h.2.2.2.1, cell_on hb h.2.2.2.2.1, cell_on hb h.2.2.2.2.2⟩
theorem six_new (w : World) (d u i : Int) (f : Nat) (t : ByteArray) (m : Int) : Six (w.alloc (askO d u i f t m)) w.heap.size d u i f t m := by
  refine ⟨?_, ?_, ?_, ?_, ?_, ?_⟩ <;> simp [go_sem]
set_option maxHeartbeats 2000000 in
theorem walk (d u i : Int) (f : Nat) (t : ByteArray) (m : Int) (w : World) (hu : 0 ≤ u ∧ u < 18446744073709551616) (hi : -9223372036854775808 ≤ i ∧ i ≤ 9223372036854775807) (hf : W64 f) (ht : t.size ≤ 1048576) :
    Calls Try.prog 5 #[askV d u i f t m] w fun e w' => e = .returned (.bool true) ∧ Below w.heap.size w w' := by
  have HA := Lib.hid (fun w => awake8_any w)
  have HW := Lib.hid (fun w1 v (h : NoOut w1 v) => wr_no w1 v d u i f t m hu hi hf ht h)
  have HY := Lib.hid (fun w1 v (h : NoOut w1 v) => bytes_no w1 v h)
  have HF := Lib.hid (fun w1 v (h : NoIn w1 v) => fault_no w1 v h)
  have HR := Lib.hid (fun w1 v (h : NoIn w1 v) => rs_any w1 v 15 d u i m f t h.shut)
  have HL := Lib.hid (fun w1 v (h : NoIn w1 v) => left_shut w1 v 15 h.shut)
  have HE := Lib.hid (fun w1 v (h : NoIn w1 v) => end_shut w1 v 15 h.shut)
  have HB0 := Lib.hid (below_one w (askO d u i f t m))
  have HS0 := Lib.hid (six_new w d u i f t m)
  clear hu hi hf ht
  go_enter Try.func5, Try.ntmps5
  go_wp2_with fail
  go_loopw [3] (fun kv wr => ∃ k : Nat, k ≤ 2 ∧ kv = .int .i64 k ∧ Hid (Below w.heap.size w wr ∧ Six wr w.heap.size d u i f t m)) (fun kv _ => 2 - (intOf kv).toNat)
  case atStart => exact ⟨0, by omega, rfl, Lib.hid ⟨HB0.out, HS0.out⟩⟩
  case round =>
    obtain ⟨k, hk, rfl, hS⟩ := hrel
    clear HB0 HS0
    by_cases h2 : k = 2
    · subst h2
      go_wp2_with fail
      refine (HA.out _).mono ?_; rintro r w1 ⟨rfl, hb⟩
      have HB := Lib.hid (below_then hS.out.1 hb)
      clear hb
      go_wp2_with fail
      go_ret
      exact ⟨rfl, HB.out⟩
    · by_cases h1 : k = 1
      · subst h1
        have HN := Lib.hid (show NoOut ((wr.alloc (.cells #[.pointer none, .int .i64 0, .bool false] 50)).alloc (.cells #[.slice none 0 0, .int .i64 0, .int .i64 0, .bool false] 52)) (.pointer (some ⟨wr.heap.size, 0, none⟩)) from .inr ⟨_, rfl, by
          rw [(below_one (wr.alloc (.cells #[.pointer none, .int .i64 0, .bool false] 50)) _).block _ (by simp)]; exact heap_alloc_new wr _⟩)
        have HM := Lib.hid (show NoIn ((wr.alloc (.cells #[.pointer none, .int .i64 0, .bool false] 50)).alloc (.cells #[.slice none 0 0, .int .i64 0, .int .i64 0, .bool false] 52)) (.pointer (some ⟨wr.heap.size + 1, 0, none⟩)) from .inr ⟨_, rfl, by
          have := heap_alloc_new (wr.alloc (.cells #[.pointer none, .int .i64 0, .bool false] 50)) (.cells #[.slice none 0 0, .int .i64 0, .int .i64 0, .bool false] 52)
          simpa using this⟩)
        have hb2 := two_below wr (.cells #[.pointer none, .int .i64 0, .bool false] 50) (.cells #[.slice none 0 0, .int .i64 0, .int .i64 0, .bool false] 52)
        have HB := Lib.hid (below_then hS.out.1 hb2)
        have HX := Lib.hid (hS.out.2.on hb2)
        clear hb2
        go_upto_region 8 with fail
        generalize ((wr.alloc (.cells #[.pointer none, .int .i64 0, .bool false] 50)).alloc (.cells #[.slice none 0 0, .int .i64 0, .int .i64 0, .bool false] 52)) = W at *
        obtain ⟨c0, c1, c2, c3, c4, c5⟩ := HX.out
        go_wp2_with fail
        refine (HW.out _ _ HN.out).mono ?_; rintro r w2 ⟨rfl, hb⟩
        have HN2 := Lib.hid (HN.out.below hb)
        have HM2 := Lib.hid (HM.out.below hb)
        have HB2 := Lib.hid (below_then HB.out hb)
        have HX2 := Lib.hid (HX.out.on hb)
        clear hb c0 c1 c2 c3 c4 c5
        go_wp2_with fail
        refine (HF.out _ _ HM2.out).mono ?_; rintro r w3 ⟨rfl, rfl⟩
        go_wp2_with fail
        refine (HY.out _ _ HN2.out).mono ?_; rintro r w3 ⟨rfl, rfl⟩
        obtain ⟨c0, c1, c2, c3, c4, c5⟩ := HX2.out
        go_wp2_with fail
        refine (HR.out _ _ HM2.out).mono ?_; rintro r w3 ⟨rfl, hb⟩
        have HM3 := Lib.hid (HM2.out.below hb)
        have HB3 := Lib.hid (below_then HB2.out hb)
        have HX3 := Lib.hid (HX2.out.on hb)
        clear hb c0 c1 c2 c3 c4 c5
        go_wp2_with fail
        refine (HL.out _ _ HM3.out).mono ?_; rintro r w4 ⟨rfl, rfl⟩
        go_wp2_with fail
        refine (HE.out _ _ HM3.out).mono ?_; rintro r w4 ⟨rfl, rfl⟩
        go_wp2_with fail
        go_roundw
        case rel => exact ⟨2, by omega, by go_num, Lib.hid ⟨HB3.out, HX3.out⟩⟩
        case measure => simp [intOf]
      · obtain rfl : k = 0 := by omega
        have HN := Lib.hid (show NoOut wr (.pointer none) from .inl rfl)
        have HM := Lib.hid (show NoIn wr (.pointer none) from .inl rfl)
        obtain ⟨c0, c1, c2, c3, c4, c5⟩ := hS.out.2
        go_wp2_with fail
        refine (HW.out _ _ HN.out).mono ?_; rintro r w2 ⟨rfl, hb⟩
        have HN2 := Lib.hid (HN.out.below hb)
        have HM2 := Lib.hid (HM.out.below hb)
        have HB2 := Lib.hid (below_then hS.out.1 hb)
        have HX2 := Lib.hid (hS.out.2.on hb)
        clear hb c0 c1 c2 c3 c4 c5
        go_wp2_with fail
        refine (HF.out _ _ HM2.out).mono ?_; rintro r w3 ⟨rfl, rfl⟩
        go_wp2_with fail
        refine (HY.out _ _ HN2.out).mono ?_; rintro r w3 ⟨rfl, rfl⟩
        obtain ⟨c0, c1, c2, c3, c4, c5⟩ := HX2.out
        go_wp2_with fail
        refine (HR.out _ _ HM2.out).mono ?_; rintro r w3 ⟨rfl, hb⟩
        have HM3 := Lib.hid (HM2.out.below hb)
        have HB3 := Lib.hid (below_then HB2.out hb)
        have HX3 := Lib.hid (HX2.out.on hb)
        clear hb c0 c1 c2 c3 c4 c5
        go_wp2_with fail
        refine (HL.out _ _ HM3.out).mono ?_; rintro r w4 ⟨rfl, rfl⟩
        go_wp2_with fail
        refine (HE.out _ _ HM3.out).mono ?_; rintro r w4 ⟨rfl, rfl⟩
        go_wp2_with fail
        go_roundw
        case rel => exact ⟨1, by omega, by go_num, Lib.hid ⟨HB3.out, HX3.out⟩⟩
        case measure => simp [intOf]
/-- What the bound gives: the text's length. -/
theorem short {H : Type} {y0 y1 y2 y3 y5 : DataW H} {t : ByteArray} (hk : Rows.uptoSmall H [.agg [y0, y1, y2, y3, .lit (.string t.data.toList), y5]] = true) : t.size ≤ 1048576 := by
  have h : Rows.uptoBulkAll [DataW.agg [y0, y1, y2, y3, .lit (.string t.data.toList), y5]] ≤ 1048576 := of_decide_eq_true hk
  simp only [Rows.uptoBulkAll, Rows.uptoBulk] at h
  have e : t.data.toList.length = t.size := by rw [Array.length_toList]; rfl
  omega
theorem u64_in {a : Int} (h : (Lit.int .u64 a).wf = true) : 0 ≤ a ∧ a < 18446744073709551616 := by
  simp [Lit.wf, IntKind.min, IntKind.max, IntKind.signed, IntKind.bits] at h
  omega
theorem i64_in {a : Int} (h : (Lit.int .i64 a).wf = true) : -9223372036854775808 ≤ a ∧ a ≤ 9223372036854775807 := by
  simp [Lit.wf, IntKind.min, IntKind.max, IntKind.signed, IntKind.bits] at h
  omega
theorem contract (H : Type) (enc : TypeId × Value → H) (W : World) (base : Nat) (args : Array Value) (ds gs : List (DataW H)) (before : List MemPlace)
    (hval0 : ∀ (j : Nat) t v, Try.f5.params[j]? = some t → args[j]? = some v → Value.okWide Try.prog W .any base t v)
    (hW : DataW.Whole enc Try.prog Try.f5.params.toList Rows.bufNobodySpec.vars false W args.toList ds gs before) (hk : Rows.uptoSmall H (ds ++ gs) = true) :
    Calls Try.prog 5 args W fun e W' => ∃ v, e = .returned v ∧ Rows.bufNobodySpec.post enc Try.prog Try.f5 false true false false W args v W' := by
  have hval : ∀ (j : Nat) t v, Try.f5.params[j]? = some t → args[j]? = some v → Value.okWide Try.prog W .any base t v := hval0
  have hW' := hW
  obtain ⟨p, q, hA0, hV, rfl, hfz, hnd⟩ := hW
  have hA : DataW.TrodAll enc Try.prog W 0 (fun _ => true) true Try.f5.params.toList args.toList ds p := hA0
  rw [Try.params5] at hA hval
  obtain ⟨v0, vs0, d0, ds0, p0, q0, hargs, rfl, rfl, h0, r0⟩ := trodAll_cons hA
  obtain ⟨rfl, rfl, rfl⟩ := trodAll_nil r0
  obtain rfl : args = #[v0] := by cases args; simp_all
  obtain ⟨rfl, rfl⟩ := trodVars_none hV
  have k0 := h0
  have lt0 : ∀ x ∈ p0, x.block < W.heap.size := by obtain ⟨m, hm⟩ := k0; exact DataW.trod_lt m _ _ _ hm
  obtain ⟨cs, rfl, -⟩ := okWide_struct Try.underlying34 (hval 0 34 v0 rfl rfl)
  obtain ⟨fuel, hf⟩ := h0
  obtain ⟨d, u, i, f, t, m, hcs, ⟨w0, w1, w2, w3, w5⟩, y0, y1, y2, y3, y5, hd⟩ := read_ask hf
  obtain ⟨l⟩ := cs
  have hl : l = [.int .i64 d, .int .u64 u, .int .i64 i, .float .f64 f, .string t, .int .i64 m] := by simpa [Value.cells] using hcs
  subst hl
  have hd' : d0 = .agg [y0, y1, y2, y3, .lit (.string t.data.toList), y5] := hd
  subst hd'
  clear hA0 hval0
  refine (walk d u i f t m W (u64_in w1) (i64_in w2) (by simpa [Lit.wf, W64] using w3) (short (by simpa using hk))).mono fun e W' ⟨he, bel⟩ => ?_
  subst he
  exact ⟨_, rfl, _, _, _, [], _, [], hW', trodAll_mk1 (shut_bool Try.underlying4 _), (trodAll_cons_mk (Below.trod laidOut (by kernel_rfl) (of_decide_eq_true (by kernel_rfl)) k0 bel lt0) trodAll_mk0), rfl, bel.frame _, fun h => by cases h⟩
set_option maxRecDepth 100000 in
theorem lifted (os : Os) (started : os.Started) (H : Type) (enc : TypeId × Value → H) (G : Stop.Interp) :
    ReturnsInHanded {} Try.checked os 5 .any ((Rows.OpenSpec.upto Rows.bufNobodySpec).pre6 enc Try.prog Try.f5 Rows.bufNobodyUptoRow.domain false) (((Rows.OpenSpec.upto Rows.bufNobodySpec).at G).post enc Try.prog Try.f5 false true false false) := by
  refine returnsInHanded_of_cond (C := Try.checked) (s := Rows.OpenSpec.upto Rows.bufNobodySpec) (k := Rows.uptoSmall) rfl own started (by kernel_rfl) Try.func5
    (OpenSpec.witness (enc := enc) (C := Try.checked) (s := Rows.OpenSpec.upto Rows.bufNobodySpec) (k := Rows.uptoSmall) rfl false ⟨#[], #[.agg #[.int .i64 0, .int .u64 0, .int .i64 0, .float .f64 0, .string .empty, .int .i64 0]], []⟩ 8 (by kernel_rfl) (by kernel_rfl) (by kernel_rfl)
      (x := ([.agg [.lit (.int .i64 0), .lit (.int .u64 0), .lit (.int .i64 0), .lit (.float .f64 0), .lit (.string []), .lit (.int .i64 0)]], [], [])) (by kernel_rfl) rfl (by kernel_rfl)) ?_
  intro W base args ds gs before hval hW _ hk _
  exact contract H enc W base args ds gs before hval hW hk
theorem over : Rows.BufNobodyUptoSaid :=
  OpenClaim.holds_of_cond 5 Try.f5 rfl rfl rfl rfl rfl rfl rfl ⟨rfl, rfl, rfl, rfl, rfl⟩ rfl rfl rfl rfl rfl (by kernel_rfl) Try.func5 (by kernel_rfl)
    (of_decide_eq_true (by kernel_rfl)) (by unfold Func.isWrapper; first | (rw [if_pos (by decide +kernel)]; kernel_rfl) | (rw [if_neg (by decide +kernel)]; exact ⟨rfl, rfl⟩))
    (fun os started H enc _ G => lifted os started H enc G)
end Go.Proofs.Ytmganccajcpcbaa.bufNobody
namespace Go.Proofs.Ytmganccajcpcbaa
/-- The statement. -/
theorem bufNobody_holds : Rows.BufNobodyUptoSaid := bufNobody.over
#print axioms bufNobody_holds
end Go.Proofs.Ytmganccajcpcbaa
