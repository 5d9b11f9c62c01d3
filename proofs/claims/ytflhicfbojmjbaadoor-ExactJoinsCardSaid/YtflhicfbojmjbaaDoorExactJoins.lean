/- ExactJoins: for any two rows of bytes and any number the statement's function returns true and changes nothing that was there. No condition; the row lists the two tables of math/bits as the program's text lays them. -/
import Derived.Test.YtflhicfbojmjbaaDoorRows
import Derived.Test.YtflhicfbojmjbaaDoorCards
import Derived.Test.YtflhicfbojmjbaaDoorTie
import Derived.Test.YtflhicfbojmjbaaDoorExjo
import Derived.Test.YtflhicfbojmjbaaDoorExjn
import Derived.SevenTiedAt
namespace Go.Proofs.YtflhicfbojmjbaaDoor.exactJoins
set_option maxRecDepth 100000
open Go.ChangeShapes Go.WideShapes Go.ChangeAt Go.RowKit
set_option linter.unusedVariables false
set_option maxHeartbeats 8000000 in
theorem walk_both (p1 : Option Addr) (L1 c1 : Nat) (l1 : List Int) (p2 : Option Addr) (L2 c2 : Nat) (l2 : List Int) (x : Nat) (w : World) (v1 : Ints .u8 w (.slice p1 L1 c1) l1) (v2 : Ints .u8 w (.slice p2 L2 c2) l2) (b1 : Bt l1) (b2 : Bt l2) (hx : W64 x) (h1 : errN l1 ≠ 0) (h2 : errN l2 ≠ 0) (hT : Tab w) (hT2 : Tab64 w) :
    Calls Tryd.prog 4 #[.slice p1 L1 c1, .slice p2 L2 c2, .float .f64 x] w fun r w' => r = .returned (.bool true) ∧ Below w.heap.size w w' := by
  have P1 := pread_any p1 L1 c1 l1 w v1 b1
  have P2 := fun w1 (h : Below w.heap.size w w1) => pread_any p2 L2 c2 l2 w1 (v2.below h) b2
  have R1 := fun w1 (h : Below w.heap.size w w1) => rsread_any p1 L1 c1 l1 w1 (v1.below h) b1
  have R2 := fun w1 (h : Below w.heap.size w w1) => rsread_any p2 L2 c2 l2 w1 (v2.below h) b2
  unfold ReadP at P1 P2
  unfold RReadP5 at R1 R2
  have P1 := Lib.hid P1
  have P2 := Lib.hid P2
  have R1 := Lib.hid R1
  have R2 := Lib.hid R2
  have HA := Lib.hid (fun w1 (h : Below w.heap.size w w1) => awake5_any w1 (hT.call h) (hT2.call h))
  have H1 := Lib.hid h1
  have H2 := Lib.hid h2
  have e1 : (((errN l1 : Nat) : Int) != 0) = true := by rw [bne_iff_ne]; omega
  have f1 : (((errN l1 : Nat) : Int) == 0) = false := by rw [beq_eq_false_iff_ne]; omega
  have e2 : (((errN l2 : Nat) : Int) != 0) = true := by rw [bne_iff_ne]; omega
  have f2 : (((errN l2 : Nat) : Int) == 0) = false := by rw [beq_eq_false_iff_ne]; omega
  clear v1 v2 b1 b2 hT hT2 h1 h2 hx
  generalize errN l1 = E1 at *
  generalize errN l2 = E2 at *
  go_enter Tryd.func4, Tryd.ntmps4
  go_wp2_with fail
  refine (P1.out).mono ?_; rintro e w1 (⟨-, rfl, hb1⟩ | ⟨h, -⟩)
  rotate_left
  · exact absurd h H1.out
  have HB1 := Lib.hid hb1
  clear hb1 P1
  have Q2 := Lib.hid (P2.out w1 HB1.out)
  clear P2
  go_wp2_with fail
  refine (Q2.out).mono ?_; rintro e w2 (⟨-, rfl, hb2⟩ | ⟨h, -⟩)
  rotate_left
  · exact absurd h H2.out
  have HB2 := Lib.hid (below_then HB1.out hb2)
  have T1 := Lib.hid (R1.out w2 HB2.out)
  clear hb2 HB1 Q2 R1
  go_wp2_with fail
  refine (T1.out).mono ?_; rintro e w3 (⟨-, rfl, hb3⟩ | ⟨h, -⟩)
  rotate_left
  · exact absurd h H1.out
  have hb4 := below_then hb3 (below_one w3 zeroObj)
  have HB4 := Lib.hid (below_then HB2.out hb4)
  have T2 := Lib.hid (R2.out _ HB4.out)
  clear hb3 hb4 HB2 T1 R2
  go_wp2_with fail
  generalize w3.alloc (.cells #[.bool false, .bool false, .bool false, .bool false, .bool false, .bool false, .slice none 0 0] 32) = W3 at *
  refine (T2.out).mono ?_; rintro e w5 (⟨-, rfl, hb5⟩ | ⟨h, -⟩)
  rotate_left
  · exact absurd h H2.out
  have hb6 := below_then hb5 (below_one w5 zeroObj)
  have HB6 := Lib.hid (below_then HB4.out hb6)
  have HA6 := Lib.hid (HA.out _ HB6.out)
  clear hb5 hb6 HB4 T2 HA
  go_wp2_with fail
  generalize w5.alloc (.cells #[.bool false, .bool false, .bool false, .bool false, .bool false, .bool false, .slice none 0 0] 32) = W5 at *
  refine (join_no1 _ none none (noSum_nil _)).mono ?_; rintro e w6 ⟨rfl, rfl⟩
  go_wp2_with fail
  refine (HA6.out).mono ?_; rintro e w7 ⟨rfl, hb7⟩
  go_wp2_with fail
  go_ret
  exact ⟨rfl, below_then HB6.out hb7⟩
set_option maxHeartbeats 8000000 in
theorem walk_first (p1 : Option Addr) (L1 c1 : Nat) (l1 : List Int) (p2 : Option Addr) (L2 c2 : Nat) (l2 : List Int) (x : Nat) (w : World) (v1 : Ints .u8 w (.slice p1 L1 c1) l1) (v2 : Ints .u8 w (.slice p2 L2 c2) l2) (b1 : Bt l1) (b2 : Bt l2) (hx : W64 x) (h1 : errN l1 ≠ 0) (h2 : errN l2 = 0) (hT : Tab w) (hT2 : Tab64 w) :
    Calls Tryd.prog 4 #[.slice p1 L1 c1, .slice p2 L2 c2, .float .f64 x] w fun r w' => r = .returned (.bool true) ∧ Below w.heap.size w w' := by
  have P1 := pread_any p1 L1 c1 l1 w v1 b1
  have P2 := fun w1 (h : Below w.heap.size w w1) => pread_any p2 L2 c2 l2 w1 (v2.below h) b2
  have R1 := fun w1 (h : Below w.heap.size w w1) => rsread_any p1 L1 c1 l1 w1 (v1.below h) b1
  have R2 := fun w1 (h : Below w.heap.size w w1) => rsread_any p2 L2 c2 l2 w1 (v2.below h) b2
  unfold ReadP at P1 P2
  unfold RReadP5 at R1 R2
  have P1 := Lib.hid P1
  have P2 := Lib.hid P2
  have R1 := Lib.hid R1
  have R2 := Lib.hid R2
  have HA := Lib.hid (fun w1 (h : Below w.heap.size w w1) => awake5_any w1 (hT.call h) (hT2.call h))
  have H1 := Lib.hid h1
  have H2 := Lib.hid h2
  have e1 : (((errN l1 : Nat) : Int) != 0) = true := by rw [bne_iff_ne]; omega
  have f1 : (((errN l1 : Nat) : Int) == 0) = false := by rw [beq_eq_false_iff_ne]; omega
  clear v1 v2 b1 b2 hT hT2 h1 h2 hx
  generalize errN l1 = E1 at *
  go_enter Tryd.func4, Tryd.ntmps4
  go_wp2_with fail
  refine (P1.out).mono ?_; rintro e w1 (⟨-, rfl, hb1⟩ | ⟨h, -⟩)
  rotate_left
  · exact absurd h H1.out
  have HB1 := Lib.hid hb1
  clear hb1 P1
  have Q2 := Lib.hid (P2.out w1 HB1.out)
  clear P2
  go_wp2_with fail
  refine (Q2.out).mono ?_; rintro e w2 (⟨h, -⟩ | ⟨-, M, rfl, hM, ht, hb2⟩)
  · exact absurd H2.out h
  have HB2 := Lib.hid (below_then HB1.out hb2)
  have T1 := Lib.hid (R1.out w2 HB2.out)
  clear hb2 HB1 Q2 R1
  go_wp2_with fail
  refine (T1.out).mono ?_; rintro e w3 (⟨-, rfl, hb3⟩ | ⟨h, -⟩)
  rotate_left
  · exact absurd h H1.out
  have hb4 := below_then hb3 (below_one w3 zeroObj)
  have HB4 := Lib.hid (below_then HB2.out hb4)
  have T2 := Lib.hid (R2.out _ HB4.out)
  clear hb3 hb4 HB2 T1 R2
  go_wp2_with fail
  generalize w3.alloc (.cells #[.bool false, .bool false, .bool false, .bool false, .bool false, .bool false, .slice none 0 0] 32) = W3 at *
  refine (T2.out).mono ?_; rintro e w5 (⟨h, -⟩ | ⟨-, v, rfl, hsv, hb5⟩)
  · exact absurd H2.out h
  obtain ⟨nb', q', ql', qc', rfl⟩ := hsv.shape
  have hb6 := below_then hb5 (below_one w5 (.cells #[.bool (bitB (readF l2) 0), .bool (bitB (readF l2) 1), .bool (bitB (readF l2) 2), .bool (bitB (readF l2) 3), .bool (bitB (readF l2) 4), .bool nb', .slice q' ql' qc'] 32))
  clear hsv
  have HB6 := Lib.hid (below_then HB4.out hb6)
  have HA6 := Lib.hid (HA.out _ HB6.out)
  clear hb5 hb6 HB4 T2 HA
  go_wp2_with fail
  generalize w5.alloc (.cells #[.bool (bitB (readF l2) 0), .bool (bitB (readF l2) 1), .bool (bitB (readF l2) 2), .bool (bitB (readF l2) 3), .bool (bitB (readF l2) 4), .bool nb', .slice q' ql' qc'] 32) = W5 at *
  refine (join_no1 _ none (some ⟨M, 0, none⟩) (noSum_nil _)).mono ?_; rintro e w6 ⟨rfl, rfl⟩
  go_wp2_with fail
  refine (HA6.out).mono ?_; rintro e w7 ⟨rfl, hb7⟩
  go_wp2_with fail
  go_ret
  exact ⟨rfl, below_then HB6.out hb7⟩
set_option maxHeartbeats 8000000 in
theorem walk_second (p1 : Option Addr) (L1 c1 : Nat) (l1 : List Int) (p2 : Option Addr) (L2 c2 : Nat) (l2 : List Int) (x : Nat) (w : World) (v1 : Ints .u8 w (.slice p1 L1 c1) l1) (v2 : Ints .u8 w (.slice p2 L2 c2) l2) (b1 : Bt l1) (b2 : Bt l2) (hx : W64 x) (h1 : errN l1 = 0) (h2 : errN l2 ≠ 0) (hT : Tab w) (hT2 : Tab64 w) :
    Calls Tryd.prog 4 #[.slice p1 L1 c1, .slice p2 L2 c2, .float .f64 x] w fun r w' => r = .returned (.bool true) ∧ Below w.heap.size w w' := by
  have P1 := pread_any p1 L1 c1 l1 w v1 b1
  have P2 := fun w1 (h : Below w.heap.size w w1) => pread_any p2 L2 c2 l2 w1 (v2.below h) b2
  have R1 := fun w1 (h : Below w.heap.size w w1) => rsread_any p1 L1 c1 l1 w1 (v1.below h) b1
  have R2 := fun w1 (h : Below w.heap.size w w1) => rsread_any p2 L2 c2 l2 w1 (v2.below h) b2
  unfold ReadP at P1 P2
  unfold RReadP5 at R1 R2
  have P1 := Lib.hid P1
  have P2 := Lib.hid P2
  have R1 := Lib.hid R1
  have R2 := Lib.hid R2
  have HA := Lib.hid (fun w1 (h : Below w.heap.size w w1) => awake5_any w1 (hT.call h) (hT2.call h))
  have H1 := Lib.hid h1
  have H2 := Lib.hid h2
  have e2 : (((errN l2 : Nat) : Int) != 0) = true := by rw [bne_iff_ne]; omega
  have f2 : (((errN l2 : Nat) : Int) == 0) = false := by rw [beq_eq_false_iff_ne]; omega
  clear v1 v2 b1 b2 hT hT2 h1 h2 hx
  generalize errN l2 = E2 at *
  go_enter Tryd.func4, Tryd.ntmps4
  go_wp2_with fail
  refine (P1.out).mono ?_; rintro e w1 (⟨h, -⟩ | ⟨-, N, rfl, hN, hs, hb1⟩)
  · exact absurd H1.out h
  have HB1 := Lib.hid hb1
  have HS := Lib.hid hs
  clear hb1 P1 hs hN
  have Q2 := Lib.hid (P2.out w1 HB1.out)
  clear P2
  go_wp2_with fail
  refine (Q2.out).mono ?_; rintro e w2 (⟨-, rfl, hb2⟩ | ⟨h, -⟩)
  rotate_left
  · exact absurd h H2.out
  replace HS := Lib.hid (HS.out.below hb2)
  have HB2 := Lib.hid (below_then HB1.out hb2)
  have T1 := Lib.hid (R1.out w2 HB2.out)
  clear hb2 HB1 Q2 R1
  go_wp2_with fail
  refine (T1.out).mono ?_; rintro e w3 (⟨h, -⟩ | ⟨-, v, rfl, hsv, hb3⟩)
  · exact absurd H1.out h
  obtain ⟨nb, q, ql, qc, rfl⟩ := hsv.shape
  have hb4 := below_then hb3 (below_one w3 (.cells #[.bool (bitB (readF l1) 0), .bool (bitB (readF l1) 1), .bool (bitB (readF l1) 2), .bool (bitB (readF l1) 3), .bool (bitB (readF l1) 4), .bool nb, .slice q ql qc] 32))
  replace HS := Lib.hid (HS.out.below hb4)
  clear hsv
  have HB4 := Lib.hid (below_then HB2.out hb4)
  have T2 := Lib.hid (R2.out _ HB4.out)
  clear hb3 hb4 HB2 T1 R2
  go_wp2_with fail
  generalize w3.alloc (.cells #[.bool (bitB (readF l1) 0), .bool (bitB (readF l1) 1), .bool (bitB (readF l1) 2), .bool (bitB (readF l1) 3), .bool (bitB (readF l1) 4), .bool nb, .slice q ql qc] 32) = W3 at *
  refine (T2.out).mono ?_; rintro e w5 (⟨-, rfl, hb5⟩ | ⟨h, -⟩)
  rotate_left
  · exact absurd h H2.out
  have hb6 := below_then hb5 (below_one w5 zeroObj)
  have HB6 := Lib.hid (below_then HB4.out hb6)
  have HA6 := Lib.hid (HA.out _ HB6.out)
  replace HS := Lib.hid (HS.out.below hb6)
  clear hb5 hb6 HB4 T2 HA
  go_wp2_with fail
  generalize w5.alloc (.cells #[.bool false, .bool false, .bool false, .bool false, .bool false, .bool false, .slice none 0 0] 32) = W5 at *
  refine (join_no2 _ N _ _ none HS.out (noSum_nil _)).mono ?_; rintro e w6 ⟨rfl, rfl⟩
  go_wp2_with fail
  refine (HA6.out).mono ?_; rintro e w7 ⟨rfl, hb7⟩
  go_wp2_with fail
  go_ret
  exact ⟨rfl, below_then HB6.out hb7⟩
set_option maxHeartbeats 20000000 in
theorem walk_good (p1 : Option Addr) (L1 c1 : Nat) (l1 : List Int) (p2 : Option Addr) (L2 c2 : Nat) (l2 : List Int) (x : Nat) (w : World) (v1 : Ints .u8 w (.slice p1 L1 c1) l1) (v2 : Ints .u8 w (.slice p2 L2 c2) l2) (b1 : Bt l1) (b2 : Bt l2) (hx : W64 x) (h1 : errN l1 = 0) (h2 : errN l2 = 0) (hT : Tab w) (hT2 : Tab64 w) :
    Calls Tryd.prog 4 #[.slice p1 L1 c1, .slice p2 L2 c2, .float .f64 x] w fun r w' => r = .returned (.bool true) ∧ Below w.heap.size w w' := by
  have P1 := pread_any p1 L1 c1 l1 w v1 b1
  have P2 := fun w1 (h : Below w.heap.size w w1) => pread_any p2 L2 c2 l2 w1 (v2.below h) b2
  have R1 := fun w1 (h : Below w.heap.size w w1) => rsread_any p1 L1 c1 l1 w1 (v1.below h) b1
  have R2 := fun w1 (h : Below w.heap.size w w1) => rsread_any p2 L2 c2 l2 w1 (v2.below h) b2
  unfold ReadP at P1 P2
  unfold RReadP5 at R1 R2
  have P1 := Lib.hid P1
  have P2 := Lib.hid P2
  have R1 := Lib.hid R1
  have R2 := Lib.hid R2
  have HA := Lib.hid (fun w1 (h : Below w.heap.size w w1) => awake5_any w1 (hT.call h) (hT2.call h))
  have H1 := Lib.hid h1
  have H2 := Lib.hid h2
  have HT := Lib.hid (fun w1 (h : Below w.heap.size w w1) => hT.call h)
  have HT2 := Lib.hid (fun w1 (h : Below w.heap.size w w1) => hT2.call h)
  clear v1 v2 b1 b2 hT hT2 h1 h2
  generalize readF l1 = F at *
  generalize readT l1 = T at *
  generalize readF l2 = G at *
  generalize readT l2 = U at *
  obtain ⟨one, F1, T1, hj1⟩ := join_both F G T U
  obtain ⟨two, F2, T2, hj2⟩ := add_both F1 x T1 hx
  obtain ⟨three, F3, T3, hj3⟩ := join_both F2 F2 T2 T2
  unfold JoinBoth RJoinP at hj1 hj3
  unfold AddBoth RJoinP at hj2
  have J1 := Lib.hid hj1
  have J2 := Lib.hid hj2
  have J3 := Lib.hid hj3
  clear hj1 hj2 hj3 hx
  go_enter Tryd.func4, Tryd.ntmps4
  go_wp2_with fail
  refine (P1.out).mono ?_; rintro e w1 (⟨h, -⟩ | ⟨-, N, rfl, hN, hs, hb1⟩)
  · exact absurd H1.out h
  have hNl := hs.lt
  have HS := Lib.hid hs
  have HB := Lib.hid hb1
  have Q2 := Lib.hid (P2.out w1 hb1)
  clear hb1 P1 P2 hs
  go_wp2_with fail
  refine (Q2.out).mono ?_; rintro e w2 (⟨h, -⟩ | ⟨-, M, rfl, hM, ht, hb2⟩)
  · exact absurd H2.out h
  have hMN : M ≠ N := by omega
  have HM := Lib.hid ht
  replace HS := Lib.hid (HS.out.below hb2)
  replace HB := Lib.hid (below_then HB.out hb2)
  have Q3 := Lib.hid (R1.out w2 HB.out)
  clear hb2 Q2 R1 ht hM hNl
  go_wp2_with fail
  refine (Q3.out).mono ?_; rintro e w3 (⟨h, -⟩ | ⟨-, v, rfl, hsv, hb⟩)
  · exact absurd H1.out h
  replace HS := Lib.hid (HS.out.below hb)
  replace HM := Lib.hid (HM.out.below hb)
  replace HB := Lib.hid (below_then HB.out hb)
  clear hb Q3
  obtain ⟨nb, q, ql, qc, rfl⟩ := hsv.shape
  have hbx := below_one w3 (.cells #[.bool (bitB F 0), .bool (bitB F 1), .bool (bitB F 2), .bool (bitB F 3), .bool (bitB F 4), .bool nb, .slice q ql qc] 32)
  replace HS := Lib.hid (HS.out.below hbx)
  replace HM := Lib.hid (HM.out.below hbx)
  replace HB := Lib.hid (below_then HB.out hbx)
  have HK11 := Lib.hid hsv.box
  clear hbx hsv
  go_wp2_with fail
  generalize w3.alloc (.cells #[.bool (bitB F 0), .bool (bitB F 1), .bool (bitB F 2), .bool (bitB F 3), .bool (bitB F 4), .bool nb, .slice q ql qc] 32) = W3 at *
  generalize w3.heap.size = K11 at *
  have Q4 := Lib.hid (R2.out W3 HB.out)
  clear R2
  refine (Q4.out).mono ?_; rintro e w4 (⟨h, -⟩ | ⟨-, v, rfl, hsv, hb⟩)
  · exact absurd H2.out h
  replace HS := Lib.hid (HS.out.below hb)
  replace HM := Lib.hid (HM.out.below hb)
  replace HK11 := Lib.hid (HK11.out.below hb)
  replace HB := Lib.hid (below_then HB.out hb)
  clear hb Q4
  obtain ⟨nb, q, ql, qc, rfl⟩ := hsv.shape
  have hbx := below_one w4 (.cells #[.bool (bitB G 0), .bool (bitB G 1), .bool (bitB G 2), .bool (bitB G 3), .bool (bitB G 4), .bool nb, .slice q ql qc] 32)
  replace HS := Lib.hid (HS.out.below hbx)
  replace HM := Lib.hid (HM.out.below hbx)
  replace HK11 := Lib.hid (HK11.out.below hbx)
  replace HB := Lib.hid (below_then HB.out hbx)
  have HK13 := Lib.hid hsv.box
  clear hbx hsv
  go_upto_region 9 with fail
  generalize w4.alloc (.cells #[.bool (bitB G 0), .bool (bitB G 1), .bool (bitB G 2), .bool (bitB G 3), .bool (bitB G 4), .bool nb, .slice q ql qc] 32) = W4 at *
  generalize w4.heap.size = K13 at *
  obtain ⟨nba, qa, qla, qca, hha, hsva⟩ := HK11.out.value
  obtain ⟨⟨a0, a1, a2, a3, a4, a5, a6⟩, -⟩ := seven_at hha
  clear hha
  obtain ⟨nbb, qb, qlb, qcb, hhb, hsvb⟩ := HK13.out.value
  obtain ⟨⟨b0, b1, b2, b3, b4, b5, b6⟩, -⟩ := seven_at hhb
  clear hhb
  have Q5 := Lib.hid (J1.out.2 W4 _ _ hsva hsvb)
  clear hsva hsvb HK11
  go_wp2_with fail
  clear a0 a1 a2 a3 a4 a5 a6 b0 b1 b2 b3 b4 b5 b6
  refine (Q5.out).mono ?_; rintro e w5 ⟨⟨v, rfl, hsv⟩, hb⟩
  replace HS := Lib.hid (HS.out.below hb)
  replace HM := Lib.hid (HM.out.below hb)
  replace HK13 := Lib.hid (HK13.out.below hb)
  replace HB := Lib.hid (below_then HB.out hb)
  clear hb Q5
  obtain ⟨nb, q, ql, qc, rfl⟩ := hsv.shape
  have hbx := below_one w5 (.cells #[.bool (bitB F1 0), .bool (bitB F1 1), .bool (bitB F1 2), .bool (bitB F1 3), .bool (bitB F1 4), .bool nb, .slice q ql qc] 32)
  replace HS := Lib.hid (HS.out.below hbx)
  replace HM := Lib.hid (HM.out.below hbx)
  replace HK13 := Lib.hid (HK13.out.below hbx)
  replace HB := Lib.hid (below_then HB.out hbx)
  have HK15 := Lib.hid hsv.box
  clear hbx hsv
  go_wp2_with fail
  generalize w5.alloc (.cells #[.bool (bitB F1 0), .bool (bitB F1 1), .bool (bitB F1 2), .bool (bitB F1 3), .bool (bitB F1 4), .bool nb, .slice q ql qc] 32) = W5 at *
  generalize w5.heap.size = K15 at *
  refine (J1.out.1 W5 N M HS.out HM.out).mono ?_; rintro e w6 ⟨rfl, hs6, hg6⟩
  replace HM := Lib.hid (HM.out.grown HS.out hMN hg6)
  replace HK13 := Lib.hid (HK13.out.sum HS.out hg6)
  replace HK15 := Lib.hid (HK15.out.sum HS.out hg6)
  replace HB := Lib.hid (HB.out.grown hg6 HB.out.size (fun k hk => by simp only [Option.some.injEq] at hk; omega))
  replace HS := Lib.hid hs6
  clear hg6 hs6
  clear J1
  obtain ⟨nba, qa, qla, qca, hha, hsva⟩ := HK15.out.value
  obtain ⟨⟨a0, a1, a2, a3, a4, a5, a6⟩, -⟩ := seven_at hha
  clear hha
  have Q6 := Lib.hid (is_any w6 N _ _ _ HS.out hsva (HT.out w6 HB.out))
  clear hsva
  go_wp2_with fail
  refine (Q6.out).mono ?_; rintro e w7 ⟨rfl, hb⟩
  clear a0 a1 a2 a3 a4 a5 a6
  replace HS := Lib.hid (HS.out.below hb)
  replace HM := Lib.hid (HM.out.below hb)
  replace HK13 := Lib.hid (HK13.out.below hb)
  replace HK15 := Lib.hid (HK15.out.below hb)
  replace HB := Lib.hid (below_then HB.out hb)
  clear hb Q6
  obtain ⟨nbb, qb, qlb, qcb, hhb, hsvb⟩ := HK13.out.value
  obtain ⟨⟨b0, b1, b2, b3, b4, b5, b6⟩, -⟩ := seven_at hhb
  clear hhb
  have Q7 := Lib.hid (is_any w7 M _ _ _ HM.out hsvb (HT.out w7 HB.out))
  clear hsvb
  go_wp2_with fail
  refine (Q7.out).mono ?_; rintro e w8 ⟨rfl, hb⟩
  clear b0 b1 b2 b3 b4 b5 b6
  replace HS := Lib.hid (HS.out.below hb)
  replace HM := Lib.hid (HM.out.below hb)
  replace HK13 := Lib.hid (HK13.out.below hb)
  replace HK15 := Lib.hid (HK15.out.below hb)
  replace HB := Lib.hid (below_then HB.out hb)
  clear hb Q7 HK13
  obtain ⟨nba, qa, qla, qca, hha, hsva⟩ := HK15.out.value
  obtain ⟨⟨a0, a1, a2, a3, a4, a5, a6⟩, -⟩ := seven_at hha
  clear hha
  have Q8 := Lib.hid (J2.out.2 w8 _ hsva)
  clear hsva HK15
  go_wp2_with fail
  refine (Q8.out).mono ?_; rintro e w9 ⟨⟨v, rfl, hsv⟩, hb⟩
  clear a0 a1 a2 a3 a4 a5 a6
  replace HS := Lib.hid (HS.out.below hb)
  replace HM := Lib.hid (HM.out.below hb)
  replace HB := Lib.hid (below_then HB.out hb)
  clear hb Q8
  obtain ⟨nb, q, ql, qc, rfl⟩ := hsv.shape
  have hbx := below_one w9 (.cells #[.bool (bitB F2 0), .bool (bitB F2 1), .bool (bitB F2 2), .bool (bitB F2 3), .bool (bitB F2 4), .bool nb, .slice q ql qc] 32)
  replace HS := Lib.hid (HS.out.below hbx)
  replace HM := Lib.hid (HM.out.below hbx)
  replace HB := Lib.hid (below_then HB.out hbx)
  have HK17 := Lib.hid hsv.box
  clear hbx hsv
  go_wp2_with fail
  generalize w9.alloc (.cells #[.bool (bitB F2 0), .bool (bitB F2 1), .bool (bitB F2 2), .bool (bitB F2 3), .bool (bitB F2 4), .bool nb, .slice q ql qc] 32) = W9 at *
  generalize w9.heap.size = K17 at *
  refine (J2.out.1 W9 N HS.out (HT2.out W9 HB.out)).mono ?_; rintro e w10 ⟨rfl, hs6, hg6⟩
  replace HM := Lib.hid (HM.out.grown HS.out hMN hg6)
  replace HK17 := Lib.hid (HK17.out.sum HS.out hg6)
  replace HB := Lib.hid (HB.out.grown hg6 HB.out.size (fun k hk => by simp only [Option.some.injEq] at hk; omega))
  replace HS := Lib.hid hs6
  clear hg6 hs6
  clear J2
  obtain ⟨nba, qa, qla, qca, hha, hsva⟩ := HK17.out.value
  obtain ⟨⟨a0, a1, a2, a3, a4, a5, a6⟩, -⟩ := seven_at hha
  clear hha
  have Q9 := Lib.hid (is_any w10 N _ _ _ HS.out hsva (HT.out w10 HB.out))
  clear hsva
  go_wp2_with fail
  refine (Q9.out).mono ?_; rintro e w11 ⟨rfl, hb⟩
  clear a0 a1 a2 a3 a4 a5 a6
  replace HS := Lib.hid (HS.out.below hb)
  replace HM := Lib.hid (HM.out.below hb)
  replace HK17 := Lib.hid (HK17.out.below hb)
  replace HB := Lib.hid (below_then HB.out hb)
  clear hb Q9
  obtain ⟨nba, qa, qla, qca, hha, hsva⟩ := HK17.out.value
  obtain ⟨⟨a0, a1, a2, a3, a4, a5, a6⟩, -⟩ := seven_at hha
  clear hha
  have Q10 := Lib.hid (J3.out.2 w11 _ _ hsva hsva)
  clear hsva HK17
  go_wp2_with fail
  refine (Q10.out).mono ?_; rintro e w12 ⟨⟨v, rfl, hsv⟩, hb⟩
  clear a0 a1 a2 a3 a4 a5 a6
  replace HS := Lib.hid (HS.out.below hb)
  replace HM := Lib.hid (HM.out.below hb)
  replace HB := Lib.hid (below_then HB.out hb)
  clear hb Q10
  obtain ⟨nb, q, ql, qc, rfl⟩ := hsv.shape
  have hbx := below_one w12 (.cells #[.bool (bitB F3 0), .bool (bitB F3 1), .bool (bitB F3 2), .bool (bitB F3 3), .bool (bitB F3 4), .bool nb, .slice q ql qc] 32)
  replace HS := Lib.hid (HS.out.below hbx)
  replace HM := Lib.hid (HM.out.below hbx)
  replace HB := Lib.hid (below_then HB.out hbx)
  have HK19 := Lib.hid hsv.box
  clear hbx hsv
  go_wp2_with fail
  generalize w12.alloc (.cells #[.bool (bitB F3 0), .bool (bitB F3 1), .bool (bitB F3 2), .bool (bitB F3 3), .bool (bitB F3 4), .bool nb, .slice q ql qc] 32) = W12 at *
  generalize w12.heap.size = K19 at *
  refine (J3.out.1 W12 N N HS.out HS.out).mono ?_; rintro e w13 ⟨rfl, hs6, hg6⟩
  replace HM := Lib.hid (HM.out.grown HS.out hMN hg6)
  replace HK19 := Lib.hid (HK19.out.sum HS.out hg6)
  replace HB := Lib.hid (HB.out.grown hg6 HB.out.size (fun k hk => by simp only [Option.some.injEq] at hk; omega))
  replace HS := Lib.hid hs6
  clear hg6 hs6
  clear J3
  obtain ⟨nba, qa, qla, qca, hha, hsva⟩ := HK19.out.value
  obtain ⟨⟨a0, a1, a2, a3, a4, a5, a6⟩, -⟩ := seven_at hha
  clear hha
  have Q11 := Lib.hid (is_any w13 N _ _ _ HS.out hsva (HT.out w13 HB.out))
  clear hsva
  go_wp2_with fail
  refine (Q11.out).mono ?_; rintro e w14 ⟨rfl, hb⟩
  clear a0 a1 a2 a3 a4 a5 a6
  replace HB := Lib.hid (below_then HB.out hb)
  clear hb Q11
  have Q12 := Lib.hid (HA.out w14 HB.out)
  go_wp2_with fail
  refine (Q12.out).mono ?_; rintro e w15 ⟨rfl, hb⟩
  go_wp2_with fail
  go_ret
  exact ⟨rfl, below_then HB.out hb⟩
theorem given_bt {w : World} {v : Value} {zs : List Int} (h : Given .u8 w v zs) : Bt zs := fun x hx => by
  have := h.2 x hx; simp [Lit.wf, IntKind.min, IntKind.max, IntKind.signed, IntKind.bits] at this; omega
theorem walk (a0 : Option Addr) (len0 cap0 : Nat) (z0 : List Int) (a1 : Option Addr) (len1 cap1 : Nat) (z1 : List Int) (x : Nat) (w : World) (g0 : Given .u8 w (.slice a0 len0 cap0) z0) (m0 : len0 ≤ 9223372036854775807) (g1 : Given .u8 w (.slice a1 len1 cap1) z1) (m1 : len1 ≤ 9223372036854775807) (wx : (Lit.float .f64 x).wf = true) (hT : Tab w) (hT2 : Tab64 w) :
    Calls Tryd.prog 4 #[.slice a0 len0 cap0, .slice a1 len1 cap1, .float .f64 x] w fun r w' => r = .returned (.bool true) ∧ Below w.heap.size w w' := by
  have hx : W64 x := by simpa [Lit.wf, W64] using wx
  by_cases h1 : errN z0 = 0
  · by_cases h2 : errN z1 = 0
    · exact walk_good a0 len0 cap0 z0 a1 len1 cap1 z1 x w g0.1 g1.1 (given_bt g0) (given_bt g1) hx h1 h2 hT hT2
    · exact walk_second a0 len0 cap0 z0 a1 len1 cap1 z1 x w g0.1 g1.1 (given_bt g0) (given_bt g1) hx h1 h2 hT hT2
  · by_cases h2 : errN z1 = 0
    · exact walk_first a0 len0 cap0 z0 a1 len1 cap1 z1 x w g0.1 g1.1 (given_bt g0) (given_bt g1) hx h1 h2 hT hT2
    · exact walk_both a0 len0 cap0 z0 a1 len1 cap1 z1 x w g0.1 g1.1 (given_bt g0) (given_bt g1) hx h1 h2 hT hT2
set_option maxRecDepth 100000 in
theorem lifted (os : Os) (started : os.Started) (H : Type) (enc : TypeId × Value → H) :
    ReturnsInHanded {} Tryd.checked os 4 .any (fun w args => (Rows.exactJoinsSpec.pre enc Tryd.prog Tryd.f4 [] false w args ∧ laidMetH Tryd.prog laid3 w) ∧ sizedMet enc Tryd.prog Tryd.f4 (OpenSpec.ofChange Rows.exactJoinsSpec) false w args)
      (Rows.exactJoinsSpec.post enc Tryd.prog Tryd.f4 false true false false) := by
  refine returnsInHanded_of_change_and (C := Tryd.checked) (X := fun w _ => laidMetH Tryd.prog laid3 w) (fun _ _ _ hh h => h.of_heap hh) own2 started (by kernel_rfl) Tryd.func4
    (ChangeSpec.witness_shaped (enc := enc) (C := Tryd.checked) (os := os) (X := fun w _ => laidMetH Tryd.prog laid3 w) false (World.doorLaid Tryd.prog 800 os) #[.slice none 0 0, .slice none 0 0, .float .f64 0] 8 rfl (World.shaped_of_RefB (by kernel_rfl) (by kernel_rfl)) (by kernel_rfl) (by kernel_rfl) (by kernel_rfl) (door_met3 os _)) ?_
  intro W base args ds gs before hval0 hW _ _ hL _
  have hTab := tab_of3 hL
  have hTab64 := tab64_of3 hL
  have hval : ∀ (j : Nat) t v, Tryd.f4.params[j]? = some t → args[j]? = some v → Value.okWide Tryd.prog W .any base t v := hval0
  have hW' := hW
  obtain ⟨p, q, hA0, hV, rfl, hfz, hnd⟩ := hW
  have hA : DataW.TrodAll enc Tryd.prog W 0 (fun _ => true) true Tryd.f4.params.toList args.toList ds p := hA0
  rw [Tryd.params4] at hA hval
  obtain ⟨v0, vs0, d0, ds0, p0, q0, hargs, rfl, rfl, h0, r0⟩ := trodAll_cons hA
  obtain ⟨v1, vs1, d1, ds1, p1, q1, rfl, rfl, rfl, h1, r1⟩ := trodAll_cons r0
  obtain ⟨v2, vs2, d2, ds2, p2, q2, rfl, rfl, rfl, h2, r2⟩ := trodAll_cons r1
  obtain ⟨rfl, rfl, rfl⟩ := trodAll_nil r2
  obtain rfl : args = #[v0, v1, v2] := by cases args; simp_all
  obtain ⟨rfl, rfl⟩ := trodVars_none hV
  obtain ⟨a0, len0, cap0, rfl⟩ := okWide_slice Tryd.underlying22 (hval 0 22 v0 rfl rfl)
  have k0 := h0
  have lt0 : ∀ x ∈ p0, x.block < W.heap.size := by obtain ⟨m, hm⟩ := k0; exact DataW.trod_lt m _ _ _ hm
  obtain ⟨z0, w0, m0⟩ : ∃ zs, Given .u8 W (.slice a0 len0 cap0) zs ∧ len0 ≤ 9223372036854775807 := by
    obtain ⟨fuel, hf⟩ := h0
    rcases open_ints Tryd.underlying22 Tryd.underlying5 (by kernel_rfl) hf with ⟨hcs, _⟩ | ⟨x, l, c, zs, hcs, _, hl, hm, hz, _, hcell, hwz⟩
    · simp [Value.cells] at hcs
      obtain ⟨rfl, rfl, rfl⟩ := hcs
      exact ⟨[], given_nil, by decide⟩
    · simp [Value.cells] at hcs
      obtain ⟨rfl, rfl, rfl⟩ := hcs
      exact ⟨_, given_row hl (by simpa using hz) hcell hwz, by unfold maxLen at hm; omega⟩
  obtain ⟨a1, len1, cap1, rfl⟩ := okWide_slice Tryd.underlying22 (hval 1 22 v1 rfl rfl)
  have k1 := h1
  have lt1 : ∀ x ∈ p1, x.block < W.heap.size := by obtain ⟨m, hm⟩ := k1; exact DataW.trod_lt m _ _ _ hm
  obtain ⟨z1, w1, m1⟩ : ∃ zs, Given .u8 W (.slice a1 len1 cap1) zs ∧ len1 ≤ 9223372036854775807 := by
    obtain ⟨fuel, hf⟩ := h1
    rcases open_ints Tryd.underlying22 Tryd.underlying5 (by kernel_rfl) hf with ⟨hcs, _⟩ | ⟨x, l, c, zs, hcs, _, hl, hm, hz, _, hcell, hwz⟩
    · simp [Value.cells] at hcs
      obtain ⟨rfl, rfl, rfl⟩ := hcs
      exact ⟨[], given_nil, by decide⟩
    · simp [Value.cells] at hcs
      obtain ⟨rfl, rfl, rfl⟩ := hcs
      exact ⟨_, given_row hl (by simpa using hz) hcell hwz, by unfold maxLen at hm; omega⟩
  obtain ⟨a2, rfl, rfl, rfl, w2⟩ := open_float Tryd.underlying38 (hval 2 38 v2 rfl rfl) h2
  clear hA0 hval0
  refine (walk a0 len0 cap0 z0 a1 len1 cap1 z1 a2 W w0 m0 w1 m1 w2 hTab hTab64).mono fun e W' ⟨he, bel⟩ => ?_
  subst he
  exact ⟨_, rfl, _, _, _, [], _, [], hW', trodAll_mk1 (shut_bool Tryd.underlying4 _), (trodAll_cons_mk (Below.trod laidOut2 (by kernel_rfl) (of_decide_eq_true (by kernel_rfl)) k0 bel lt0) (trodAll_cons_mk (Below.trod laidOut2 (by kernel_rfl) (of_decide_eq_true (by kernel_rfl)) k1 bel lt1) (trodAll_cons_mk (shut_float Tryd.underlying38 w2) trodAll_mk0))), rfl, bel.frame _, fun h => by cases h⟩

theorem over : Rows.exactJoinsRow.holds Tryd.pinned (OpenSpec.ofChange Rows.exactJoinsSpec) :=
  OpenClaim.holds_of_wide 4 Tryd.f4 rfl rfl rfl rfl rfl rfl rfl ⟨rfl, rfl, rfl, rfl, rfl⟩ rfl rfl rfl rfl rfl (by kernel_rfl) Tryd.func4 (by kernel_rfl)
    (of_decide_eq_true (by kernel_rfl)) (by unfold Func.isWrapper; first | (rw [if_pos (by decide +kernel)]; kernel_rfl) | (rw [if_neg (by decide +kernel)]; exact ⟨rfl, rfl⟩))
    (fun os started H enc _ => lifted os started H enc)
theorem row_holds : Rows.ExactJoinsSaid := over
end Go.Proofs.YtflhicfbojmjbaaDoor.exactJoins
namespace Go.Proofs.YtflhicfbojmjbaaDoor
/-- The statement: the tied card. -/
theorem exactJoins_holds : Rows.ExactJoinsCardSaid :=
  Claim7.holds_tied_plain_at .later [] [.data, .data] true _ false
    exactJoins.row_holds (fun _ h => by cases h) (by kernel_rfl) (fun _ h => by cases h) exactJoins_row_tie rfl ⟨rfl, rfl⟩ (by kernel_rfl) rfl
    (fun f fn hf hfn => by
      obtain rfl : f = 4 := Option.some.inj ((show Tryd.prog.funcNamed "bushel/bushellaw05.ExactJoins" = some 4 by kernel_rfl).symm.trans hf) |>.symm
      obtain rfl : fn = Tryd.f4 := (Option.some.inj (Tryd.func4.symm.trans hfn)).symm
      exact ⟨by kernel_rfl, fun j t ht => by
        rw [Tryd.params4] at ht
        have hm : t ∈ [22, 22, 38] := by simpa using Array.mem_of_getElem? ht
        have hall : ([22, 22, 38].all fun u => !Tryd.prog.wantsStandIn u) = true := by kernel_rfl
        exact (show Tryd.prog.wantsStandIn t = false by simpa using List.all_eq_true.1 hall t hm)⟩)
    (by kernel_rfl)
#print axioms exactJoins_holds
end Go.Proofs.YtflhicfbojmjbaaDoor
