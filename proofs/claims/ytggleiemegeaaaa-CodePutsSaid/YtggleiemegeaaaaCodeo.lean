/- The chapter's examples. -/
import Derived.Test.YtggleiemegeaaaaCoden
namespace Go.Proofs.Ytggleiemegeaaaa
set_option maxRecDepth 100000
open Go.RowKit
set_option linter.unusedVariables false
/-- A slice that came in: it reads as these numbers, each of its kind. -/
def Given (k : IntKind) (w : World) (v : Value) (zs : List Int) : Prop := Ints k w v zs ∧ ∀ n ∈ zs, (Lit.int k n).wf = true
theorem given_nil {k : IntKind} {w : World} : Given k w (.slice none 0 0) [] := ⟨⟨none, 0, rfl, by simp, .inl rfl⟩, fun _ h => by cases h⟩
theorem given_row {k : IntKind} {w : World} {x : Addr} {l c : Nat} {zs : List Int} (hl : l ≤ c) (hz : zs.length = c) (hcell : ∀ i, i < zs.length → w.cell? (x.add i) = some (.int k (zs.getD i 0))) (hw : ∀ n ∈ zs, (Lit.int k n).wf = true) :
    Given k w (.slice (some x) l c) (zs.take l) := by
  have ht : (zs.take l).length = l := by rw [List.length_take]; omega
  refine ⟨⟨some x, c, by rw [ht], by omega, ?_⟩, fun n hn => hw n (List.mem_of_mem_take hn)⟩
  by_cases h0 : l = 0
  · subst h0; exact .inl (by simp)
  · refine .inr ?_
    obtain ⟨b, off, spot⟩ := x
    have hc := hcell 0 (by omega)
    have hspot : spot = none := by simpa [Addr.add] using World.cell?_spot hc
    subst hspot
    refine ⟨b, off, rfl, World.block_lt_of_cell? w _ hc, fun i hi => ?_⟩
    rw [ht] at hi
    rw [getD_take hi]
    have hh := hcell i (by omega)
    by_cases h0 : i = 0
    · subst h0; simpa [Addr.add] using hh
    · simpa [Addr.add, h0] using hh
theorem Given.byt {w : World} {v : Value} {zs : List Int} (h : Given .u8 w v zs) : Bt zs := fun x hx => by
  have := h.2 x hx; simp [Lit.wf, IntKind.min, IntKind.max, IntKind.signed, IntKind.bits] at this; omega
theorem len_max {k : IntKind} {w : World} {a : Option Addr} {len cap : Nat} {zs : List Int} (h : Given k w (.slice a len cap) zs) : zs.length = len := by
  obtain ⟨⟨_, _, e, _⟩, _⟩ := h; simp at e; exact e.2.1.symm
theorem enc300 : encU 300 = [2, 1, 44] := by decide +kernel
theorem encm1 : encI (-1) = [8] := by decide +kernel
theorem encm300 : encI (-300) = [6, 254, 212] := by decide +kernel
theorem encab : encT (ofS ⟨#[97, 0, 98]⟩) = [97, 0, 1, 98, 0, 0] := by decide +kernel
theorem strB_list (l : List Int) : (strB l).toList = l.map fun x => UInt8.ofNat x.toNat := by rw [ByteArray.toList_eq]; simp [strB]
theorem keym1 : keyI 13830554455654793216 = ((4616189618054758399 : Nat) : Int) := by decide
theorem key2 : keyI 4611686018427387904 = ((13835058055282163712 : Nat) : Int) := by decide
set_option maxHeartbeats 4000000 in
theorem awake7_any (w : World) : Calls Try.prog 7 #[] w fun e w' => e = .returned (.bool true) ∧ Below w.heap.size w w' := by
  have t1 : ((strB [2, 1, 44]).toList == [2, 1, 44]) = true := by rw [strB_list]; rfl
  have t2 : ((strB [8]).toList == [8]) = true := by rw [strB_list]; rfl
  have t3 : ((strB [6, 254, 212]).toList == [6, 254, 212]) = true := by rw [strB_list]; rfl
  have t4 : ((strB [97, 0, 1, 98, 0, 0]).toList == [97, 0, 1, 98, 0, 0]) = true := by rw [strB_list]; rfl
  have h1 := fun w => pU_any 300 w (by decide)
  have h2 := fun w => pI_any (-1) w (by decide) (by decide)
  have h3 := fun w => pI_any (-300) w (by decide) (by decide)
  have h4 := fun w => pT_any ⟨#[97, 0, 98]⟩ w (by decide)
  have h5 := fun w => pF_any 13830554455654793216 _ w (by unfold W64; decide) keym1
  have h6 := fun w => pF_any 4611686018427387904 _ w (by unfold W64; decide) key2
  have hl := less_F (x := 4616189618054758399) (y := 13835058055282163712) (by decide) (by decide)
  rw [decide_eq_true (by decide)] at hl
  rw [enc300] at h1
  rw [encm1] at h2
  rw [encm300] at h3
  rw [encab] at h4
  have b5 : Bt (encF 4616189618054758399) := bigN_bt _ _
  have b6 : Bt (encF 13835058055282163712) := bigN_bt _ _
  have HL := Lib.hid (fun u v w hu hv => pless_bytes u v _ _ w hu hv b5 b6)
  rw [hl] at HL
  generalize encF 4616189618054758399 = l5 at *
  generalize encF 13835058055282163712 = l6 at *
  have h1 := Lib.hid h1
  have h2 := Lib.hid h2
  have h3 := Lib.hid h3
  have h4 := Lib.hid h4
  have h5 := Lib.hid h5
  have h6 := Lib.hid h6
  have c1 := Lib.hid (fun w v (h : Ints .u8 w v [2, 1, 44]) => conv_ints h (by intro x hx; simp at hx; omega))
  have c2 := Lib.hid (fun w v (h : Ints .u8 w v [8]) => conv_ints h (by intro x hx; simp at hx; omega))
  have c3 := Lib.hid (fun w v (h : Ints .u8 w v [6, 254, 212]) => conv_ints h (by intro x hx; simp at hx; omega))
  have c4 := Lib.hid (fun w v (h : Ints .u8 w v [97, 0, 1, 98, 0, 0]) => conv_ints h (by intro x hx; simp at hx; omega))
  generalize strB [2, 1, 44] = S1 at *
  generalize strB [8] = S2 at *
  generalize strB [6, 254, 212] = S3 at *
  generalize strB [97, 0, 1, 98, 0, 0] = S4 at *
  clear hl b5 b6
  go_enter Try.func7, Try.ntmps7
  go_wp2_with fail
  refine (h1.out _).mono ?_; rintro e w1 ⟨⟨v, rfl, ho⟩, hb⟩
  have HB1 := Lib.hid hb
  have hcv := c1.out _ _ (Ints.own ho)
  obtain ⟨pa, pl, pc, rfl⟩ := own_slice3 ho
  clear ho hb
  go_wp2_with (simp only [hcv])
  refine (h2.out _).mono ?_; rintro e w2 ⟨⟨v, rfl, ho⟩, hb⟩
  have HB2 := Lib.hid (below_then HB1.out hb)
  have hcv2 := c2.out _ _ (Ints.own ho)
  obtain ⟨pa, pl, pc, rfl⟩ := own_slice3 ho
  clear ho hb hcv
  go_wp2_with (simp only [hcv2])
  refine (h3.out _).mono ?_; rintro e w3 ⟨⟨v, rfl, ho⟩, hb⟩
  have HB3 := Lib.hid (below_then HB2.out hb)
  have hcv3 := c3.out _ _ (Ints.own ho)
  obtain ⟨pa, pl, pc, rfl⟩ := own_slice3 ho
  clear ho hb hcv2
  go_wp2_with (simp only [hcv3])
  refine (h4.out _).mono ?_; rintro e w4 ⟨⟨v, rfl, ho⟩, hb⟩
  have HB4 := Lib.hid (below_then HB3.out hb)
  have hcv4 := c4.out _ _ (Ints.own ho)
  obtain ⟨pa, pl, pc, rfl⟩ := own_slice3 ho
  clear ho hb hcv3
  go_wp2_with (simp only [hcv4])
  refine (h5.out _).mono ?_; rintro e w5 ⟨⟨v5, rfl, ho5⟩, hb⟩
  have HB5 := Lib.hid (below_then HB4.out hb)
  have HI5 := Lib.hid (Ints.own ho5)
  obtain ⟨pa, pl, pc, rfl⟩ := own_slice3 ho5
  clear ho5 hb hcv4
  go_wp2_with fail
  refine (h6.out _).mono ?_; rintro e w6 ⟨⟨v6, rfl, ho6⟩, hb⟩
  have HB6 := Lib.hid (below_then HB5.out hb)
  have HI6 := Lib.hid (Ints.own ho6)
  have HI5' := Lib.hid (HI5.out.below hb)
  obtain ⟨pa6, pl6, pc6, rfl⟩ := own_slice3 ho6
  clear ho6 hb
  go_wp2_with fail
  refine (HL.out _ _ _ HI5'.out HI6.out).mono ?_; rintro e w7 ⟨rfl, rfl⟩
  go_wp2_with fail
  go_ret
  exact ⟨by rfl, HB6.out⟩
end Go.Proofs.Ytggleiemegeaaaa
