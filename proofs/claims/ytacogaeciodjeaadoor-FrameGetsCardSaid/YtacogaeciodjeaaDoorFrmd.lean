/- The reference's high and Put. -/
import Derived.Test.YtacogaeciodjeaaDoorFrmc
namespace Go.Proofs.YtacogaeciodjeaaDoor
set_option maxRecDepth 100000
open Go.RowKit
set_option linter.unusedVariables false
/-- Three bytes, of which so many are written, the last first. -/
def hiN (x : Nat) : Nat → List Int
  | 0 => [0, 0, 0]
  | k + 1 => (hiN x k).set (2 - k) ((x / 256 ^ k % 256 : Nat) : Int)
theorem hiN_len (x k : Nat) : (hiN x k).length = 3 := by
  induction k with
  | zero => rfl
  | succ k ih => rw [hiN, List.length_set, ih]
theorem hiN_be (x : Nat) : hiN x 3 = beN x := by
  simp [hiN, beN]
set_option maxHeartbeats 2000000 in
theorem high_any (x : Nat) (w : World) (hx : x < 4294967296) : Calls Tryd.prog 15 #[.int .u32 x, .int .i64 3] w (BytesP w (beN x)) := by
  obtain ⟨i0, hi, hz0, hz1, hz2⟩ := info_parts Tryd.infoU8
  have HS := Lib.hid (show ∀ k, hiN x (k + 1) = (hiN x k).set (2 - k) ((x / 256 ^ k % 256 : Nat) : Int) from fun k => rfl)
  have HN := Lib.hid (show ∀ k, x / 256 ^ (k + 1) = x / 256 ^ k / 256 from fun k => by rw [Nat.pow_succ, Nat.div_div_eq_div_mul])
  have HX := Lib.hid (show ((x : Nat) : Int) = ((x / 256 ^ 0 : Nat) : Int) by simp)
  have HE := Lib.hid (hiN_be x)
  have HL := Lib.hid (hiN_len x)
  have H0 := Lib.hid (show hiN x 0 = [0, 0, 0] from rfl)
  generalize hiN x = l at *
  generalize beN x = R at *
  go_enter Tryd.func15, Tryd.ntmps15
  go_wp2_with (at_make; refine wpList_make_full _ rfl _ _ 22 rfl w.heap.size 5 i0 (.int .u8 0) 1 Tryd.underlying22 hi hz0 hz1 .i64 .i64 _ _ 3 rfl rfl (by omega) (by omega) (by rw [hz2]; omega) (by unfold maxLen; omega) (by simp) ?_; intro w0 hown hgrow)
  have HW := Lib.hid (show w0.ownsRow w.heap.size 5 1 (.slice (some ⟨w.heap.size, 0, none⟩) 3 3) 3 ((l 0).map (Value.int .u8)) ∧ Below w.heap.size w w0 from ⟨by rw [Nat.mul_one, show (Value.int .u8 0).cells = #[Value.int .u8 0] from rfl, toList_madeCells_one] at hown; rw [H0.out]; exact hown, (Below.refl _ _).grown hgrow (Nat.le_refl _) (fun k hk => by have e := hk; simp at e)⟩)
  clear hown hgrow
  go_wp2_with fail
  go_loopw [0, 6] (fun xv i wr => ∃ k : Nat, k ≤ 3 ∧ xv = .int .u32 ((x / 256 ^ k : Nat) : Int) ∧ i = .int .i64 (2 - (k : Int)) ∧ Hid (wr.ownsRow w.heap.size 5 1 (.slice (some ⟨w.heap.size, 0, none⟩) 3 3) 3 ((l k).map (Value.int .u8)) ∧ Below w.heap.size w wr)) (fun _ i _ => (intOf i + 1).toNat)
  case atStart => exact ⟨0, by omega, by rw [HX.out], rfl, HW⟩
  case round =>
    obtain ⟨k, hk, rfl, rfl, hS⟩ := hrel
    clear HW
    have HN0 := Lib.hid (HN.out k)
    have HS0 := Lib.hid (HS.out k)
    have hyx : x / 256 ^ k ≤ x := Nat.div_le_self _ _
    generalize x / 256 ^ k = y at *
    by_cases hlt : k < 3
    · have i1 : (0 : Int) ≤ 2 - (k : Int) := by omega
      have i2 : 2 - (k : Int) < 3 := by omega
      have i3 : (2 - (k : Int)).toNat = 2 - k := by omega
      have hc : ((y : Int) % 256) = ((y % 256 : Nat) : Int) := by omega
      have HC := Lib.hid hc
      have hfz := hS.out.1.frozenAt (2 - k)
      have hcy := hS.out.1.cellAt (2 - k) (by omega)
      rw [List.getElem?_map, List.getElem?_eq_getElem (by rw [HL.out]; omega)] at hcy
      simp only [Option.map_some] at hcy
      have HQ := Lib.hid (fun z => hS.out.1.stored (2 - k) (.int .u8 z))
      have HB := Lib.hid hS.out.2
      clear hc hS
      go_wp2_with fail
      go_roundw
      case rel => exact ⟨k + 1, by omega, by rw [HN0.out]; push_cast; rfl, by go_num, Lib.hid ⟨by rw [HS0.out, List.map_set, ← HC.out]; exact (HQ.out _).1, HB.out.setCell (Nat.le_refl _) _⟩⟩
      case measure => simp [intOf]; omega
    · obtain rfl : k = 3 := by omega
      go_wp2_with fail
      go_ret
      exact ⟨⟨_, rfl, by unfold BOwn; rw [← HE.out, HL.out]; exact hS.out.1⟩, hS.out.2⟩
theorem four_take (p k : Nat) (hk : k < 4) : (fourB p).take (k + 1) = (fourB p).take k ++ [((p / 256 ^ k % 256 : Nat) : Int)] := by
  have : k = 0 ∨ k = 1 ∨ k = 2 ∨ k = 3 := by omega
  rcases this with rfl | rfl | rfl | rfl <;> simp [fourB]
theorem byte_add {w wr w1 : World} {B : Nat} {o v' : Value} {l m : List Int} {ob : Obj} (hB : B ≤ wr.heap.size) (hnx : Below B w wr) (hown : BOwn wr B o l)
    (hown' : BOwn w1 B v' (l ++ m)) (hg : (wr.alloc ob).grownBy w1 o.ownBlock) : BOwn w1 B v' (l ++ m) ∧ Below B w w1 := ⟨hown', own_grown hB hnx hown hg⟩
set_option maxHeartbeats 2000000 in
theorem rput_any (v : Value) (b : List Int) (w : World) (hv : Ints .u8 w v b) (hb : Byt b) (hl : b.length ≤ 60000) :
    Calls Tryd.prog 9 #[v] w (BytesP w (putN b)) := by
  obtain ⟨i0, hi, hz0, hz1, hz2⟩ := info_parts Tryd.infoU8
  have HH := Lib.hid (high_any b.length (w.alloc (.cells #[.int .u8 181] 5)) (by omega))
  have hu : IntKind.u32.wrap (b.length : Int) = b.length := by rw [IntKind.wrap_u32]; omega
  have HE := Lib.hid (show headF b = ([181] ++ beN b.length) ++ b by unfold headF; simp)
  have HL := Lib.hid (head_len b)
  have H3 := Lib.hid (show (beN b.length).length = 3 from rfl)
  have HP := Lib.hid (show putN b = headF b ++ (fourB (moreN 0 (headF b))).take 4 from rfl)
  have HSm := Lib.hid (fun u w' (ho : BOwn w' w.heap.size u (headF b)) => rsum_any u (headF b) w' (Ints.own ho) (head_byt hb) (by rw [head_len]; omega))
  have HF := Lib.hid (four_take (moreN 0 (headF b)))
  have HFl := Lib.hid (fun k => show ((fourB (moreN 0 (headF b))).take k).length ≤ 4 by rw [List.length_take]; exact Nat.min_le_right _ _)
  have HF0 := Lib.hid (show (fourB (moreN 0 (headF b))).take 0 = [] from rfl)
  have hm := more_lt 0 (headF b)
  have HN := Lib.hid (show ∀ k, moreN 0 (headF b) / 256 ^ (k + 1) = moreN 0 (headF b) / 256 ^ k / 256 from fun k => by rw [Nat.pow_succ, Nat.div_div_eq_div_mul])
  have HX := Lib.hid (show ((moreN 0 (headF b) : Nat) : Int) = ((moreN 0 (headF b) / 256 ^ 0 : Nat) : Int) by simp)
  have HV := Lib.hid hv
  have HB1 := Lib.hid (below_one w (.cells #[.int .u8 181] 5))
  have HO := Lib.hid (show BOwn (w.alloc (.cells #[.int .u8 181] 5)) w.heap.size (.slice (some ⟨w.heap.size, 0, none⟩) 1 1) [181] from World.ownsRow_lit w #[.int .u8 181] 1 (Nat.le_refl w.heap.size) (by unfold maxLen; omega) rfl)
  obtain ⟨a, cap, rfl, hcap, hcells⟩ := hv
  generalize fourB (moreN 0 (headF b)) = f4 at *
  generalize moreN 0 (headF b) = s at *
  generalize putN b = R at *
  generalize headF b = l at *
  generalize beN b.length = hd at *
  have hs0 := HB1.out.size
  clear hcap hcells hb
  go_enter Tryd.func9, Tryd.ntmps9
  go_upto_region 2 with (first
    | ((with_reducible refine (HH.out).mono ?_); rintro e w1 ⟨⟨v1, rfl, ho1⟩, hb1⟩; have HS1 := Lib.hid (And.intro ho1 hb1); have hs1 := hb1.size; obtain ⟨pv1, lv1, cv1, rfl⟩ := own_slice3 ho1; clear ho1 hb1)
    | (at_builtin; refine wpList_append_want _ (by rfl) _ _ 22 rfl w.heap.size 5 i0 (.int .u8 0) 1 Tryd.underlying22 hi hz0 hz1 hz2 rfl .u8 _ _ [181] hd rfl rfl (own_below HO.out HS1.out.2) (Ints.own HS1.out.1) (by rw [H3.out]; unfold maxLen; simp) (by rw [H3.out]; simp) (by omega) ?_; intro v2 w2 hown hgrow; have HQ := Lib.hid (And.intro hown (own_grown0 (Nat.le_trans hs0 hs1) (below_then HB1.out HS1.out.2) (own_below HO.out HS1.out.2) hgrow)); have hs2 := HQ.out.2.size; obtain ⟨pv2, lv2, cv2, rfl⟩ := own_slice3 hown; clear hown hgrow)
    | (at_builtin; refine wpList_append_want _ (by rfl) _ _ 22 rfl w.heap.size 5 i0 (.int .u8 0) 1 Tryd.underlying22 hi hz0 hz1 hz2 rfl .u8 _ _ ([181] ++ hd) b rfl rfl HQ.out.1 (HV.out.below HQ.out.2) (by rw [List.length_append, H3.out]; unfold maxLen; simp; omega) (by rw [List.length_append, H3.out]; simp; omega) hs2 ?_; intro v3 w3 hown hgrow; rw [← HE.out] at hown; have HR := Lib.hid (And.intro hown (own_grown0 hs2 HQ.out.2 HQ.out.1 hgrow)); have HSS := Lib.hid (HSm.out v3 w3 HR.out.1); obtain ⟨pv3, lv3, cv3, rfl⟩ := own_slice3 hown; clear hown hgrow))
  go_wp2_with fail
  refine (HSS.out).mono ?_; rintro e w' ⟨rfl, rfl⟩
  clear HH HSm HSS
  go_wp2_with fail
  go_loopw [3, 4, 5] (fun o x i wr => ∃ k : Nat, k ≤ 4 ∧ x = .int .u32 ((s / 256 ^ k : Nat) : Int) ∧ i = .int .i64 k ∧ Hid (BOwn wr w.heap.size o (l ++ f4.take k) ∧ Below w.heap.size w wr)) (fun _ _ i _ => 4 - (intOf i).toNat)
  case atStart => exact ⟨0, by omega, by rw [HX.out], rfl, Lib.hid ⟨by rw [HF0.out, List.append_nil]; exact HR.out.1, HR.out.2⟩⟩
  case round =>
    obtain ⟨k, hk, rfl, rfl, hS⟩ := hrel
    obtain ⟨pa, pl, pc, rfl⟩ := own_slice3 hS.out.1
    clear HR
    have HN0 := Lib.hid (HN.out k)
    have HF0 := Lib.hid (HF.out k)
    have HL0 := Lib.hid (HFl.out k)
    have hyx : s / 256 ^ k ≤ s := Nat.div_le_self _ _
    generalize s / 256 ^ k = y at *
    by_cases hlt : k < 4
    · have hc : ((y : Int) % 256) = ((y % 256 : Nat) : Int) := by omega
      have HC := Lib.hid hc
      have hbs := hS.out.2.size
      clear hc
      go_wp2_with (at_builtin; refine wpList_append_want _ (by rfl) _ _ 22 rfl w.heap.size 5 i0 (.int .u8 0) 1 Tryd.underlying22 hi hz0 hz1 hz2 rfl .u8 _ _ (l ++ f4.take k) [(y : Int) % 256] rfl rfl (hS.out.1.alloc _) (ints_new rfl) (by rw [List.length_append, HL.out]; have := HL0.out; unfold maxLen; simp only [List.length_cons, List.length_nil]; omega) (by rw [List.length_append, HL.out]; have := HL0.out; simp only [List.length_cons, List.length_nil]; omega) (by simp; omega) ?_; intro v4 w4 hown hgrow; have HU := Lib.hid (And.intro hown (own_grown hbs hS.out.2 hS.out.1 hgrow)); obtain ⟨pv4, lv4, cv4, rfl⟩ := own_slice3 hown; clear hown hgrow)
      go_roundw
      case rel => exact ⟨k + 1, by omega, by rw [HN0.out]; push_cast; rfl, by go_num, Lib.hid ⟨by rw [HF0.out hlt, ← List.append_assoc, ← HC.out]; exact HU.out.1, HU.out.2⟩⟩
      case measure => simp [intOf]; omega
    · obtain rfl : k = 4 := by omega
      go_wp2_with fail
      go_ret
      exact ⟨⟨_, rfl, by rw [HP.out]; exact hS.out.1⟩, hS.out.2⟩
end Go.Proofs.YtacogaeciodjeaaDoor
