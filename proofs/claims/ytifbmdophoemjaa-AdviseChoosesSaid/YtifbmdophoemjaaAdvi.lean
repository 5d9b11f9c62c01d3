/- Layer 18: the chapter's example; three sets that come in. -/
import Derived.Test.YtifbmdophoemjaaAdvh
import Derived.OpenShut
namespace Go.Proofs.Ytifbmdophoemjaa
set_option maxRecDepth 100000
open Go.RowKit
set_option linter.unusedVariables false
theorem szs_two (w : World) : Szs (w.alloc (.cells #[.int .i64 1, .int .i64 9] 2)) (.slice (some ⟨w.heap.size, 0, none⟩) 2 2) [1, 9] :=
  Ints.own (zs := [1, 9]) (World.ownsRow_lit w #[.int .i64 1, .int .i64 9] (e := 2) (size := 1) 2 (Nat.le_refl _) (by decide) rfl)
set_option maxHeartbeats 8000000 in
theorem awake18_any (w : World) : Calls Try.prog 6 #[] w fun e w' => e = .returned (.bool true) ∧ Below w.heap.size w w' := by
  have HB0 := Lib.hid (below_one w (.cells #[.int .i64 1, .int .i64 9] 2))
  have HC := Lib.hid (pchoose_any (w.alloc (.cells #[.int .i64 1, .int .i64 9] 2)) 1 2 _ [1, 9] rfl rfl (szs_two w) (by decide))
  have HM := Lib.hid (fun w u v l hu hv hl => masks17_any u v l w hu hv hl)
  go_enter Try.func6, Try.ntmps6
  go_wp2_with fail
  refine Calls.mono HC.out ?_; rintro e w1 ⟨v, rfl, hv, hb1⟩
  obtain ⟨u, rfl, hu⟩ : ∃ u, v = .tuple #[u, .int .i64 0] ∧ Msk w1 u [0] := by
    rcases hv with ⟨-, u, e, hu⟩ | ⟨h, -⟩
    · exact ⟨u, e, hu⟩
    · exact absurd (by decide) h
  have HB1 := Lib.hid (below_then HB0.out hb1)
  have HU := Lib.hid hu
  obtain ⟨p, c, rfl⟩ := hu.len
  have HP := Lib.hid (show Calls Try.prog 7 #[.int .i64 1, .slice (some ⟨w1.heap.size, 0, none⟩) 2 2, .slice p ([0] : List Nat).length c] (w1.alloc (.cells #[.int .i64 1, .int .i64 9] 2)) fun e w' => e = .returned (.tuple #[.int .i64 10, .int .i64 0]) ∧ Below (w1.alloc (.cells #[.int .i64 1, .int .i64 9] 2)).heap.size (w1.alloc (.cells #[.int .i64 1, .int .i64 9] 2)) w' from
    pcost_any _ 1 _ _ [1, 9] [0] rfl (szs_two w1) (hu.below (below_one w1 _)) (Bd.one (by decide)) (by decide) (by decide))
  have HB2 := Lib.hid (below_then HB1.out (below_one w1 (.cells #[.int .i64 1, .int .i64 9] 2)))
  clear hu hv hb1 HC HB0
  go_wp2_with fail
  refine Calls.mono HP.out ?_; rintro e w2 ⟨rfl, hb2⟩
  have HB3 := Lib.hid (below_then HB2.out hb2)
  have HU2 := Lib.hid (HU.out.below (below_then (below_one w1 (.cells #[.int .i64 1, .int .i64 9] 2)) hb2))
  have HP2 := Lib.hid (show Calls Try.prog 7 #[.int .i64 1, .slice (some ⟨w2.heap.size, 0, none⟩) 2 2, .slice none 0 0] (w2.alloc (.cells #[.int .i64 1, .int .i64 9] 2)) fun e w' => e = .returned (.tuple #[.int .i64 18, .int .i64 0]) ∧ Below (w2.alloc (.cells #[.int .i64 1, .int .i64 9] 2)).heap.size (w2.alloc (.cells #[.int .i64 1, .int .i64 9] 2)) w' from
    pcost_any _ 1 _ _ [1, 9] [] rfl (szs_two w2) ⟨none, 0, rfl, Nat.le_refl _, .inl rfl⟩ Bd.nil (by decide) (by decide))
  have HB4 := Lib.hid (below_then HB3.out (below_one w2 (.cells #[.int .i64 1, .int .i64 9] 2)))
  clear hb2 HP HB2 HB1 HU
  go_wp2_with fail
  refine Calls.mono HP2.out ?_; rintro e w3 ⟨rfl, hb3⟩
  have HB5 := Lib.hid (below_then HB4.out hb3)
  have HM3 := Lib.hid (HM.out (w3.alloc (.cells #[.int .u32 0] 29)) _ _ [0] ((HU2.out.below (below_then (below_one w2 (.cells #[.int .i64 1, .int .i64 9] 2)) hb3)).below (below_one w3 _)) (one17 w3 0) (by decide))
  have HB6 := Lib.hid (below_then HB5.out (below_one w3 (.cells #[.int .u32 0] 29)))
  clear hb3 HP2 HB3 HB4 HU2 HM HB5
  go_wp2_with fail
  refine Calls.mono HM3.out ?_; rintro e w4 ⟨rfl, hb4⟩
  have HB7 := Lib.hid (below_then HB6.out hb4)
  clear hb4 HM3 HB6
  go_wp2_with fail
  go_ret
  exact ⟨rfl, HB7.out⟩
theorem arr3_cells18 : Try.prog.cellsOf 37 = 3 ∧ Try.prog.cellsOf 29 = 1 := by
  refine ⟨?_, ?_⟩ <;> kernel_rfl
end Go.Proofs.Ytifbmdophoemjaa
