/- The program's Put; the reference's high and Put. -/
import Derived.Test.YtacogaeciodjeaaDoorFrmb
namespace Go.Proofs.YtacogaeciodjeaaDoor
set_option maxRecDepth 100000
open Go.RowKit
set_option linter.unusedVariables false
theorem grown_below {w w' : World} (hb : Below w.heap.size w w') (row : Option Nat) : w.grownBy w' row := ⟨hb.os, hb.tape, hb.output, hb.size, fun k hk _ => hb.block k hk⟩
theorem own_below {w w' : World} {B E n : Nat} {v : Value} {xs : List Value} (h : w.ownsRow B E 1 v n xs) (hb : Below w.heap.size w w') : w'.ownsRow B E 1 v n xs :=
  h.kept (grown_below hb none) (by cases v.ownBlock <;> simp)
def PutP (w : World) (l : List Int) (e : Ending) (w' : World) : Prop := (∃ v, e = .returned (.tuple #[v, .int .i64 0]) ∧ BOwn w' w.heap.size v l) ∧ Below w.heap.size w w'
theorem pput_long (v : Value) (n : Nat) (a : Option Addr) (cap : Nat) (w : World) (hv : v = .slice a n cap) (hl : 60000 < n) :
    Calls Tryd.prog 8 #[v] w fun e w' => e = .returned (.tuple #[.slice none 0 0, .int .i64 4]) ∧ w = w' := by
  subst hv
  have h1 : (60000 : Int) < (n : Int) := by omega
  go_enter Tryd.func8, Tryd.ntmps8
  go_wp2_with fail
  go_ret2
  exact ⟨rfl, rfl⟩
set_option maxHeartbeats 2000000 in
theorem pput_any (v : Value) (b : List Int) (w : World) (hv : Ints .u8 w v b) (hb : Byt b) (hl : b.length ≤ 60000) (hT : Fours w) :
    Calls Tryd.prog 8 #[v] w (PutP w (putN b)) := by
  obtain ⟨i0, hi, hz0, hz1, hz2⟩ := info_parts Tryd.infoU8
  have HZ := Lib.hid (psize_any (b.length : Int) w)
  rw [show sizeN (b.length : Int) = (b.length : Int) + 8 by unfold sizeN; rw [if_neg (by omega)]] at HZ
  obtain ⟨w0, hr, hO, hg⟩ := run_make_own (P := Tryd.prog) (w := w) w.heap.size 22 5 i0 (.int .u8 0) 1 Tryd.underlying22 hi hz0 hz1 .i64 .i64 (b.length + 8) (by rw [hz2]; omega) (by unfold maxLen; omega) (Nat.le_refl _)
  simp only [Int.natCast_add, Int.cast_ofNat_Int] at hr
  have hB : Below w.heap.size w w0 := (Below.refl _ _).grown hg (Nat.le_refl _) (fun k hk => by cases hk)
  have HO := Lib.hid (show BOwn w0 w.heap.size (.slice (some ⟨w.heap.size, 0, none⟩) 0 (b.length + 8)) [] from hO)
  have HB := Lib.hid hB
  have HV := Lib.hid hv
  have HT := Lib.hid hT
  have HY := Lib.hid hb
  obtain ⟨a, cap, rfl, hcap, hcells⟩ := hv
  have h1 : ¬ (60000 : Int) < (b.length : Int) := by omega
  clear hO hg hB hT hb hcells hcap
  go_enter Tryd.func8, Tryd.ntmps8
  go_upto_region 5 with (first | ((with_reducible refine (HZ.out).mono ?_); rintro e w' ⟨rfl, rfl⟩) | (simp only))
  have hs0 := HB.out.size
  have HE := Lib.hid (show headF b = ([] ++ [181, (b.length : Int) / 65536, (b.length : Int) / 256, (b.length : Int) % 256]) ++ b by
    unfold headF beN; rw [List.nil_append]; simp only [List.cons_append, List.nil_append, List.cons.injEq, true_and, and_true]; refine ⟨?_, ?_, ?_⟩ <;> omega)
  have HH := Lib.hid (head_len b)
  have HP := Lib.hid (show putN b = headF b ++ fourB (moreN 0 (headF b)) from rfl)
  have HTL := Lib.hid (fun u w' (h : Below w.heap.size w w') (ho : BOwn w' w.heap.size u (headF b)) => ptail_any u (headF b) w' (Ints.own ho) (head_byt HY.out) (by rw [head_len]; omega) (HT.out.call h))
  have HF4 := Lib.hid (show (fourB (moreN 0 (headF b))).length = 4 from rfl)
  generalize fourB (moreN 0 (headF b)) = f4 at *
  generalize putN b = R at *
  generalize headF b = l at *
  go_wp2_with (first
    | (at_builtin; refine wpList_append_want _ (by rfl) _ _ 22 rfl w.heap.size 5 i0 (.int .u8 0) 1 Tryd.underlying22 hi hz0 hz1 hz2 rfl .u8 _ _ [] [181, (b.length : Int) / 65536, (b.length : Int) / 256, (b.length : Int) % 256] rfl rfl (HO.out.alloc _) (ints_new rfl) (by unfold maxLen; simp) (by simp) (by simp; omega) ?_; intro v1 w1 hown hgrow; have HQ := Lib.hid (And.intro hown (own_grown hs0 HB.out HO.out hgrow)); have hs1 := HQ.out.2.size; obtain ⟨pv1, lv1, cv1, rfl⟩ := own_slice3 hown; clear hown hgrow)
    | (at_builtin; refine wpList_append_want _ (by rfl) _ _ 22 rfl w.heap.size 5 i0 (.int .u8 0) 1 Tryd.underlying22 hi hz0 hz1 hz2 rfl .u8 _ _ ([] ++ [181, (b.length : Int) / 65536, (b.length : Int) / 256, (b.length : Int) % 256]) b rfl rfl HQ.out.1 (HV.out.below HQ.out.2) (by unfold maxLen; simp; omega) (by simp; omega) hs1 ?_; intro v2 w2 hown hgrow; rw [← HE.out] at hown; have HR := Lib.hid (And.intro hown (own_grown0 hs1 HQ.out.2 HQ.out.1 hgrow)); have HTT := Lib.hid (HTL.out v2 w2 HR.out.2 HR.out.1); have hs2 := HR.out.2.size; obtain ⟨pv2, lv2, cv2, rfl⟩ := own_slice3 hown; clear hown hgrow)
    | ((with_reducible refine (HTT.out).mono ?_); rintro e w3 ⟨⟨v3, rfl, ho3⟩, hb3⟩; have HS3 := Lib.hid (And.intro ho3 hb3); obtain ⟨pv3, lv3, cv3, rfl⟩ := own_slice3 ho3; clear ho3 hb3)
    | (at_builtin; refine wpList_append_want _ (by rfl) _ _ 22 rfl w.heap.size 5 i0 (.int .u8 0) 1 Tryd.underlying22 hi hz0 hz1 hz2 rfl .u8 _ _ l f4 rfl rfl (own_below HR.out.1 HS3.out.2) (Ints.own HS3.out.1) (by rw [HF4.out, HH.out]; unfold maxLen; omega) (by rw [HF4.out, HH.out]; omega) (Nat.le_trans hs2 HS3.out.2.size) ?_; intro v4 w4 hown hgrow; rw [← HP.out] at hown; have HU := Lib.hid (And.intro hown (own_grown0 (Nat.le_trans hs2 HS3.out.2.size) (below_then HR.out.2 HS3.out.2) (own_below HR.out.1 HS3.out.2) hgrow)); obtain ⟨pv4, lv4, cv4, rfl⟩ := own_slice3 hown; clear hown hgrow))
  go_ret2
  exact ⟨⟨_, rfl, HU.out.1⟩, HU.out.2⟩
end Go.Proofs.YtacogaeciodjeaaDoor
