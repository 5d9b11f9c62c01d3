/- Layer 16: the reference's Ints; the program's Sort; the chapter's example. -/
import Derived.Test.YtgiekjckfgdfnaaTouh
import Derived.Lib.SlBytesConst
namespace Go.Proofs.Ytgiekjckfgdfnaa
set_option maxRecDepth 100000
open Go.RowKit
set_option linter.unusedVariables false
theorem ints_of16 {w : World} {B : Nat} {v : Value} {F : List Nat} (h : w.ownsRow B 3 1 v F.length (intsN F)) : Ints .i64 w v (F.map fun (i : Nat) => (i : Int)) := by
  apply Ints.own (B := B) (E := 3)
  have e : intsN F = (F.map fun (i : Nat) => (i : Int)).map (Value.int .i64) := by simp [intsN]
  rw [e] at h
  simpa using h
set_option maxHeartbeats 4000000 in
theorem rints_any (w : World) (u v : Value) (l : List Int) (hu : Ints .i64 w u l) (hv : Ints .i64 w v l) (hl : l.length ≤ 1000) :
    Calls Try.prog 5 #[u, v] w fun e w' => e = .returned (.bool true) ∧ Below w.heap.size w w' := by
  have HU := Lib.hid hu
  have HV := Lib.hid hv
  obtain ⟨a, c, rfl, -⟩ := hu
  obtain ⟨b, d, rfl, -⟩ := hv
  go_enter Try.func5, Try.ntmps5
  go_wp2_with fail
  go_loopw [5] (fun iv wr => ∃ t : Nat, t ≤ l.length ∧ iv = .int .i64 t ∧ Hid (Below w.heap.size w wr)) (fun iv _ => l.length - (intOf iv).toNat)
  case atStart => exact ⟨0, Nat.zero_le _, rfl, Lib.hid (Below.refl _ _)⟩
  case round =>
    obtain ⟨t, ht, rfl, HB⟩ := hrel
    by_cases h : t < l.length
    · have h' : (t : Int) < (l.length : Int) := by omega
      obtain ⟨bb, o, rfl, -, hc⟩ := (HU.out.below HB.out).cell h
      obtain ⟨bb2, o2, rfl, -, hc2⟩ := (HV.out.below HB.out).cell h
      have HD := Lib.hid (fun n => below_then HB.out ((Drawn.refl wr).next n).below)
      generalize l.getD t 0 = x at *
      go_wp2_with fail
      go_quiet (fail)
      have HE := Lib.hid (HD.out nq)
      go_wp2
      go_roundw
      case rel => exact ⟨t + 1, by omega, by go_num, HE⟩
      case measure => simp [intOf]; omega
    · have e : t = l.length := by omega
      subst e
      have h' : ¬ (l.length : Int) < (l.length : Int) := by omega
      go_wp2_with fail
      go_ret
      exact ⟨rfl, HB.out⟩
set_option maxHeartbeats 4000000 in
theorem sort_any (w : World) (v : Value) (Ls : List (List Int)) (h : Byss w v Ls) (hbt : ∀ l ∈ Ls, Bt l) (hn : Ls.length ≤ 1000) :
    Calls Try.prog 8 #[v] w fun e w' => (∃ u, e = .returned u ∧ ∃ F, LeastL Ls Ls.length F ∧ w'.ownsRow w.heap.size 3 1 u F.length (intsN F)) ∧ Below w.heap.size w w' := by
  have HL := Lib.hid (least_any w v Ls Ls.length h hbt hn (by omega) (by omega))
  obtain ⟨a, c, rfl, -⟩ := h.r
  clear h hbt
  go_enter Try.func8, Try.ntmps8
  go_wp2_with fail
  refine HL.out.mono ?_; rintro e w2 ⟨⟨u, rfl, F, hF, ho⟩, hb⟩
  have H := Lib.hid (And.intro hF (And.intro ho hb))
  obtain ⟨pa, pc, rfl⟩ := own_any16 ho
  clear hF ho hb
  go_wp2_with fail
  go_ret
  exact ⟨⟨_, rfl, F, H.out.1, H.out.2.1⟩, H.out.2.2⟩
/-- The chapter's rows. -/
def exB16 : List (List Int) := [[98], [97], [98], [97, 97]]
theorem ex_least {F : List Nat} (h : LeastL exB16 2 F) : F = [1, 3] := by
  obtain ⟨⟨L, hp⟩, hl⟩ := h
  have o := ltB_ord fun k => exB16.getD k []
  have hl2 : F.length = 2 := hl
  match F, hl2 with
  | [x, y], _ =>
    obtain ⟨x1, x2⟩ := ahead_pop o hp (t := 0) (Nat.succ_pos 1)
    obtain ⟨y1, y2⟩ := ahead_pop o hp (t := 1) (Nat.lt_succ_self 1)
    have hx : hg [x, y] 0 = x := rfl
    have hy : hg [x, y] 1 = y := rfl
    rw [hx] at x1 x2
    rw [hy] at y1 y2
    have a0 : aheadN (ltB fun k => exB16.getD k []) 4 0 = 2 := by decide +kernel
    have a1 : aheadN (ltB fun k => exB16.getD k []) 4 1 = 0 := by decide +kernel
    have a2 : aheadN (ltB fun k => exB16.getD k []) 4 2 = 3 := by decide +kernel
    have a3 : aheadN (ltB fun k => exB16.getD k []) 4 3 = 1 := by decide +kernel
    have e4 : exB16.length = 4 := rfl
    rw [e4] at x1 x2 y1 y2
    have ex : x = 1 := by
      rcases (by omega : x = 0 ∨ x = 1 ∨ x = 2 ∨ x = 3) with rfl | rfl | rfl | rfl
      · rw [a0] at x1; cases x1
      · rfl
      · rw [a2] at x1; cases x1
      · rw [a3] at x1; cases x1
    have ey : y = 3 := by
      rcases (by omega : y = 0 ∨ y = 1 ∨ y = 2 ∨ y = 3) with rfl | rfl | rfl | rfl
      · rw [a0] at y1; cases y1
      · rw [a1] at y1; cases y1
      · rw [a2] at y1; cases y1
      · rfl
    rw [ex, ey]
theorem size_alloc16 (w : World) (o : Obj) : (w.alloc o).heap.size = w.heap.size + 1 := by simp
theorem alloc_keep16 {w : World} {N : Nat} {x : Obj} (o : Obj) (h : w.heap[N]? = some x) : (w.alloc o).heap[N]? = some x :=
  ((below_one w o).block _ (Array.getElem?_eq_some_iff.1 h).1).trans h
theorem alloc_new16 {w : World} {N : Nat} (o : Obj) (h : N = w.heap.size) : (w.alloc o).heap[N]? = some o := by rw [h]; exact heap_alloc_new w o
theorem ints_lit16 {W : World} {N : Nat} {l : List Int} {T : TypeId} {fr : Nat × Nat} (h : W.heap[N]? = some (.cells (l.map (Value.int .u8)).toArray T fr)) (hl : l.length ≤ 100) : Ints .u8 W (.slice (some ⟨N, 0, none⟩) l.length l.length) l := by
  refine ⟨_, _, rfl, Nat.le_refl _, .inr ⟨N, 0, rfl, (Array.getElem?_eq_some_iff.1 h).1, fun i hi => ?_⟩⟩
  simp [World.cell?, h, hi, List.getD]
theorem ex_rows (w : World) : Byss (((((w.alloc (.cells #[.int .u8 98] 5 (1, 2))).alloc (.cells #[.int .u8 97] 5 (1, 2))).alloc (.cells #[.int .u8 98] 5 (1, 2))).alloc (.cells #[.int .u8 97, .int .u8 97] 5 (2, 3))).alloc (.cells #[.slice (some ⟨w.heap.size, 0, none⟩) 1 1, .slice (some ⟨w.heap.size + 1, 0, none⟩) 1 1, .slice (some ⟨w.heap.size + 1 + 1, 0, none⟩) 1 1, .slice (some ⟨w.heap.size + 1 + 1 + 1, 0, none⟩) 2 2] 24)) (.slice (some ⟨w.heap.size + 1 + 1 + 1 + 1, 0, none⟩) 4 4) exB16 ∧ Below w.heap.size w (((((w.alloc (.cells #[.int .u8 98] 5 (1, 2))).alloc (.cells #[.int .u8 97] 5 (1, 2))).alloc (.cells #[.int .u8 98] 5 (1, 2))).alloc (.cells #[.int .u8 97, .int .u8 97] 5 (2, 3))).alloc (.cells #[.slice (some ⟨w.heap.size, 0, none⟩) 1 1, .slice (some ⟨w.heap.size + 1, 0, none⟩) 1 1, .slice (some ⟨w.heap.size + 1 + 1, 0, none⟩) 1 1, .slice (some ⟨w.heap.size + 1 + 1 + 1, 0, none⟩) 2 2] 24)) := by
  generalize hW : (((((w.alloc (.cells #[.int .u8 98] 5 (1, 2))).alloc (.cells #[.int .u8 97] 5 (1, 2))).alloc (.cells #[.int .u8 98] 5 (1, 2))).alloc (.cells #[.int .u8 97, .int .u8 97] 5 (2, 3))).alloc (.cells #[.slice (some ⟨w.heap.size, 0, none⟩) 1 1, .slice (some ⟨w.heap.size + 1, 0, none⟩) 1 1, .slice (some ⟨w.heap.size + 1 + 1, 0, none⟩) 1 1, .slice (some ⟨w.heap.size + 1 + 1 + 1, 0, none⟩) 2 2] 24)) = W
  have b4 : W.heap[w.heap.size + 1 + 1 + 1 + 1]? = some (.cells #[.slice (some ⟨w.heap.size, 0, none⟩) 1 1, .slice (some ⟨w.heap.size + 1, 0, none⟩) 1 1, .slice (some ⟨w.heap.size + 1 + 1, 0, none⟩) 1 1, .slice (some ⟨w.heap.size + 1 + 1 + 1, 0, none⟩) 2 2] 24) := by
    rw [← hW]; exact alloc_new16 _ (by simp only [size_alloc16])
  have b3 : W.heap[w.heap.size + 1 + 1 + 1]? = some (.cells #[.int .u8 97, .int .u8 97] 5 (2, 3)) := by
    rw [← hW]; exact alloc_keep16 _ (alloc_new16 _ (by simp only [size_alloc16]))
  have b2 : W.heap[w.heap.size + 1 + 1]? = some (.cells #[.int .u8 98] 5 (1, 2)) := by
    rw [← hW]; exact alloc_keep16 _ (alloc_keep16 _ (alloc_new16 _ (by simp only [size_alloc16])))
  have b1 : W.heap[w.heap.size + 1]? = some (.cells #[.int .u8 97] 5 (1, 2)) := by
    rw [← hW]; exact alloc_keep16 _ (alloc_keep16 _ (alloc_keep16 _ (alloc_new16 _ (by simp only [size_alloc16]))))
  have b0 : W.heap[w.heap.size]? = some (.cells #[.int .u8 98] 5 (1, 2)) := by
    rw [← hW]; exact alloc_keep16 _ (alloc_keep16 _ (alloc_keep16 _ (alloc_keep16 _ (alloc_new16 _ rfl))))
  have i0 := ints_lit16 (l := [98]) b0 (by decide)
  have i1 := ints_lit16 (l := [97]) b1 (by decide)
  have i2 := ints_lit16 (l := [98]) b2 (by decide)
  have i3 := ints_lit16 (l := [97, 97]) b3 (by decide)
  refine ⟨⟨_, _, rfl, by decide, by decide, .inr ⟨w.heap.size + 1 + 1 + 1 + 1, 0, rfl, (Array.getElem?_eq_some_iff.1 b4).1, fun i hi => ?_⟩⟩, ?_⟩
  · have hi4 : i < 4 := hi
    rcases (by omega : i = 0 ∨ i = 1 ∨ i = 2 ∨ i = 3) with rfl | rfl | rfl | rfl
    · exact ⟨_, by simp [World.cell?, b4], i0⟩
    · exact ⟨_, by simp [World.cell?, b4], i1⟩
    · exact ⟨_, by simp [World.cell?, b4], i2⟩
    · exact ⟨_, by simp [World.cell?, b4], i3⟩
  · rw [← hW]
    exact below_then (below_then (below_then (below_then (below_one _ _) (below_one _ _)) (below_one _ _)) (below_one _ _)) (below_one _ _)
set_option maxHeartbeats 4000000 in
theorem awake16_any (w : World) : Calls Try.prog 4 #[] w fun e w' => e = .returned (.bool true) ∧ Below w.heap.size w w' := by
  have HL := Lib.hid (fun w1 v (h : Byss w1 v exB16) => least_any w1 v exB16 2 h (by unfold exB16 Bt; decide) (by decide) (by decide) (by decide))
  have HI := Lib.hid (fun w1 u v (hu : Ints .i64 w1 u [1, 3]) (hv : Ints .i64 w1 v [1, 3]) => rints_any w1 u v [1, 3] hu hv (by decide))
  go_enter Try.func4, Try.ntmps4
  have kc := fun (w : World) (C : Array Value) (n c : Nat) => Lib.run_convert_bytes_const (P := Try.prog) w 24 5 C n c Try.underlying24 Try.underlying5
  have kc1 := fun (w : World) (o : Obj) (C : Array Value) (n c : Nat) => kc (w.alloc o) C n c
  have kc2 := fun (w : World) (o o' : Obj) (C : Array Value) (n c : Nat) => kc ((w.alloc o).alloc o') C n c
  have kc3 := fun (w : World) (o o' o'' : Obj) (C : Array Value) (n c : Nat) => kc (((w.alloc o).alloc o').alloc o'') C n c
  simp only [size_alloc16] at kc1 kc2 kc3
  go_wp2_with (first | simp only [kc] | simp only [kc1] | simp only [kc2] | simp only [kc3])
  obtain ⟨hx, hb0⟩ := ex_rows w
  have HX := Lib.hid (And.intro hx hb0)
  clear hx hb0
  generalize (((((w.alloc (.cells #[.int .u8 98] 5 (1, 2))).alloc (.cells #[.int .u8 97] 5 (1, 2))).alloc (.cells #[.int .u8 98] 5 (1, 2))).alloc (.cells #[.int .u8 97, .int .u8 97] 5 (2, 3))).alloc (.cells #[.slice (some ⟨w.heap.size, 0, none⟩) 1 1, .slice (some ⟨w.heap.size + 1, 0, none⟩) 1 1, .slice (some ⟨w.heap.size + 1 + 1, 0, none⟩) 1 1, .slice (some ⟨w.heap.size + 1 + 1 + 1, 0, none⟩) 2 2] 24)) = W at *
  have HL1 := Lib.hid (HL.out _ _ HX.out.1)
  clear HL
  refine HL1.out.mono ?_; rintro e w2 ⟨⟨u, rfl, F, hF, ho⟩, hb⟩
  obtain rfl := ex_least hF
  have HU := Lib.hid (ints_of16 ho)
  have HB2 := Lib.hid (below_then HX.out.2 hb)
  obtain ⟨pa, pc, rfl⟩ := own_any16 ho
  have HL3 := Lib.hid (HI.out (w2.alloc (.cells #[.int .i64 1, .int .i64 3] 3)) _ _ (HU.out.below (below_one _ _)) (ints_of16 (B := w2.heap.size) (F := [1, 3]) (World.ownsRow_lit w2 #[.int .i64 1, .int .i64 3] 2 (Nat.le_refl _) (by decide) rfl)))
  have HB3 := Lib.hid (below_then HB2.out (below_one w2 (.cells #[.int .i64 1, .int .i64 3] 3)))
  clear hF ho hb HU HX HI HB2 HL1
  go_wp2_with fail
  refine HL3.out.mono ?_; rintro e w4 ⟨rfl, hb⟩
  have HB4 := Lib.hid (below_then HB3.out hb)
  clear hb HL3
  go_wp2_with fail
  go_ret
  exact ⟨rfl, HB4.out⟩
end Go.Proofs.Ytgiekjckfgdfnaa
