/- What the calls that make lists of digits return: the document's answer for layer 1. -/
import Derived.Test.YtpfcacjcikhamaaDoorRefa
namespace Go.Proofs.YtpfcacjcikhamaaDoor
set_option maxRecDepth 100000
open Go.RowKit
set_option maxHeartbeats 1000000 in
theorem sum_digits (u v : Value) (a b : List Int) (w : World) (hu : Ints .i64 w u a) (hv : Ints .i64 w v b) (ha : Dig a) (hb : Dig b) (la : a.length ≤ 1099511627775) (lb : b.length ≤ 1099511627775) :
    Calls Tryd.prog 83 #[u, v] w (MadeDigits w (val a + val b) (max a.length b.length + 1)) := by
  obtain ⟨i0, hi, hz0, hz1, hz2⟩ := info_parts Tryd.infoInt
  have HU := Lib.hid hu
  have HV := Lib.hid hv
  have HD := Lib.hid (And.intro ha hb)
  obtain ⟨ap, ac, rfl, -, -⟩ := hu
  obtain ⟨bp, bc, rfl, -, -⟩ := hv
  clear ha hb
  by_cases hab : a.length < b.length
  all_goals
    go_enter Tryd.func83, Tryd.ntmps83
    go_wp2_with fail
    go_loopw [5, 6, 7] (fun o c i wr => ∃ (k : Nat) (out : List Int) (cr : Int), k ≤ max a.length b.length ∧ i = .int .i64 k ∧ c = .int .i64 cr ∧ Hid (SumRel a b out k cr) ∧ 0 ≤ cr ∧ cr ≤ 1 ∧
        Hid (wr.ownsRow w.heap.size 3 1 o out.length (out.map (Value.int .i64))) ∧ Hid (Below w.heap.size w wr)) (fun _ _ i _ => max a.length b.length - (intOf i).toNat)
    case atStart => exact ⟨0, [], 0, Nat.zero_le _, rfl, rfl, Lib.hid (SumRel.start a b), by omega, by omega, Lib.hid (World.ownsRow_nil _ _ _ _), Lib.hid (Below.refl _ _)⟩
    case round =>
      obtain ⟨k, out, cr, hk, rfl, rfl, hR, hc0, hc1, hown, hnx⟩ := hrel
      have HAr := HU.out.below hnx.out
      have HBr := HV.out.below hnx.out
      have hlo := Lib.hid hR.out.2.1
      have hol : out.length ≤ 1099511627775 := by have := hlo.out; omega
      by_cases hlt : k < max a.length b.length
      · have HA1 := Lib.hid (fun w1 h => digit_any _ a k k (Lib.hid rfl) w1 (HAr.below h))
        have HB1 := Lib.hid (fun w1 h => digit_any _ b k k (Lib.hid rfl) w1 (HBr.below h))
        have da := HD.out.1.getD k
        have db := HD.out.2.getD k
        have hS := Lib.hid (fun (x y : Int) (hx : a.getD k 0 = x) (hy : b.getD k 0 = y) => hR.out.step HD.out.1 HD.out.2 x y hx hy)
        generalize hx : a.getD k 0 = x at *
        generalize hy : b.getD k 0 = y at *
        have hS2 := Lib.hid (hS.out x y rfl rfl)
        clear hx hy hS hR HAr HBr HU HV HD
        obtain ⟨x1, x2⟩ := da
        obtain ⟨y1, y2⟩ := db
        have hlt1 : k < a.length ∨ k < b.length := by omega
        have hlt2 : (k < b.length ∧ a.length < b.length) ∨ (k < a.length ∧ ¬ a.length < b.length) := by omega
        clear hlt1
        have hsz := hnx.out.size
        obtain ⟨hlt3, -⟩ | ⟨hlt3, -⟩ := hlt2
        all_goals
          go_wp2_with fail
          refine (HA1.out _ (Below.refl _ _)).mono ?_; rintro e w' ⟨rfl, rfl⟩
          go_wp2_with fail
          refine (HB1.out _ (Below.refl _ _)).mono ?_; rintro e w' ⟨rfl, rfl⟩
          go_wp2_with (at_builtin; refine wpList_append_own _ rfl _ _ 26 rfl w.heap.size 3 i0 (.int .i64 0) 1 8 Tryd.underlying26 hi hz0 hz1 hz2 rfl (by decide) _ _ _ rfl (hown.out.alloc _) ⟨wr.heap.size, 0, none⟩ 1 1 [.int .i64 ((x + y + cr) % 1000)] rfl rfl (cell_one_new _ _ _) (one_int _ _) (room63 (by omega)) (room47 (by omega)) (by simp; omega) ?_; intro v' w1 hown' hgrow _)
          have hP := Lib.hid (own_push rfl hnx.out.size hnx.out hown.out hown' hgrow)
          clear hown' hgrow hown hnx hsz
          go_wp2_with fail
          go_roundw
          case rel => exact ⟨k + 1, out ++ [(x + y + cr) % 1000], (x + y + cr) / 1000, by omega, by go_num, rfl, hS2, by omega, by omega, Lib.hid hP.out.1, Lib.hid hP.out.2⟩
          case measure => simp [intOf]; omega
      · have hE := Lib.hid (hR.out.stop (k := k) (by omega) (by omega))
        have hlt2 : (b.length ≤ k ∧ a.length < b.length) ∨ (a.length ≤ k ∧ ¬ a.length < b.length) := by omega
        have hkm : k ≤ max a.length b.length := hk
        clear hR HAr HBr HU HV HD
        have hsz := hnx.out.size
        obtain ⟨hlt3, hlt4⟩ | ⟨hlt3, hlt4⟩ := hlt2
        all_goals try exact absurd hlt4 hab
        all_goals try exact absurd hab hlt4
        all_goals
          go_wp2_with (at_builtin; refine wpList_append_own _ rfl _ _ 26 rfl w.heap.size 3 i0 (.int .i64 0) 1 8 Tryd.underlying26 hi hz0 hz1 hz2 rfl (by decide) _ _ _ rfl (hown.out.alloc _) ⟨wr.heap.size, 0, none⟩ 1 1 [.int .i64 cr] rfl rfl (cell_one_new _ _ _) (one_int _ _) (room63 (by omega)) (room47 (by omega)) (by simp; omega) ?_; intro v' w1 hown' hgrow _)
          have hP := own_push rfl hnx.out.size hnx.out hown.out hown' hgrow
          go_ret
          exact ⟨v', out ++ [cr], rfl, Ints.own hP.1, Typed.own hP.1, hE.out.2.1, hE.out.1, by have := hE.out.2.2; omega, hP.2⟩
/-- One step of a difference. -/
theorem rest_step {a b out : List Int} {k : Nat} {c : Int} (h : valN a k - valN b k = val out - 1000 ^ k * c) (hl : out.length = k) (s d c' : Int) (hs : s = a.getD k 0 - b.getD k 0 - c) (hd : s = d - 1000 * c') :
    valN a (k + 1) - valN b (k + 1) = val (out ++ [d]) - 1000 ^ (k + 1) * c' := by
  rw [valN, valN, val_snoc, hl, p_succ]
  have h2 : s * 1000 ^ k = a.getD k 0 * 1000 ^ k - b.getD k 0 * 1000 ^ k - c * 1000 ^ k := by rw [hs, Int.sub_mul, Int.sub_mul]
  have h3 : s * 1000 ^ k = d * 1000 ^ k - 1000 * c' * 1000 ^ k := by rw [hd, Int.sub_mul]
  have h4 : 1000 ^ k * c = c * 1000 ^ k := Int.mul_comm _ _
  have h5 : 1000 ^ k * 1000 * c' = 1000 * c' * 1000 ^ k := by rw [Int.mul_assoc, Int.mul_comm]
  omega
def RestRel (a b out : List Int) (k : Nat) (c : Int) : Prop := valN a k - valN b k = val out - 1000 ^ k * c ∧ out.length = k ∧ Dig out ∧ 0 ≤ c ∧ c ≤ 1
theorem RestRel.start (a b : List Int) : RestRel a b [] 0 0 := ⟨by simp [valN, val_nil], rfl, Dig.nil, by omega, by omega⟩
theorem RestRel.less {a b out : List Int} {k : Nat} {c : Int} (ha : Dig a) (hb : Dig b) (h : RestRel a b out k c) (x y : Int) (hx : a.getD k 0 = x) (hy : b.getD k 0 = y) (hn : x - y - c < 0) :
    RestRel a b (out ++ [x - y - c + 1000]) (k + 1) 1 := by
  obtain ⟨h1, h2, h3, h4, h5⟩ := h
  have h6 := ha.getD k
  have h7 := hb.getD k
  rw [hx] at h6
  rw [hy] at h7
  exact ⟨rest_step h1 h2 _ _ 1 (by rw [hx, hy]) (by omega), by simp [h2], h3.snoc (by omega) (by omega), by omega, by omega⟩
theorem RestRel.more {a b out : List Int} {k : Nat} {c : Int} (ha : Dig a) (hb : Dig b) (h : RestRel a b out k c) (x y : Int) (hx : a.getD k 0 = x) (hy : b.getD k 0 = y) (hn : 0 ≤ x - y - c) :
    RestRel a b (out ++ [x - y - c]) (k + 1) 0 := by
  obtain ⟨h1, h2, h3, h4, h5⟩ := h
  have h6 := ha.getD k
  have h7 := hb.getD k
  rw [hx] at h6
  rw [hy] at h7
  exact ⟨rest_step h1 h2 _ _ 0 (by rw [hx, hy]) (by omega), by simp [h2], h3.snoc (by omega) (by omega), by omega, by omega⟩
theorem RestRel.stop {a b out : List Int} {c : Int} (hb : Dig b) (ha : Dig a) (hv : val b ≤ val a) (h : RestRel a b out a.length c) : val out = val a - val b ∧ Dig out ∧ out.length = a.length := by
  obtain ⟨h1, h2, h3, h4, h5⟩ := h
  have hr := val_range ha
  have hr2 := val_range h3
  rw [h2] at hr2
  rw [valN_past a (Nat.le_refl _), valN_of_lt hb (by omega)] at h1
  refine ⟨?_, h3, h2⟩
  have : c = 0 ∨ c = 1 := by omega
  rcases this with rfl | rfl <;> simp at h1 <;> omega
set_option maxHeartbeats 1000000 in
theorem rest_digits (u v : Value) (a b : List Int) (w : World) (hu : Ints .i64 w u a) (hv : Ints .i64 w v b) (ha : Dig a) (hb : Dig b) (la : a.length ≤ 1099511627775) (hab : val b ≤ val a) :
    Calls Tryd.prog 84 #[u, v] w (MadeDigits w (val a - val b) a.length) := by
  obtain ⟨i0, hi, hz0, hz1, hz2⟩ := info_parts Tryd.infoInt
  have HU := Lib.hid hu
  have HV := Lib.hid hv
  have HD := Lib.hid (And.intro ha (And.intro hb hab))
  obtain ⟨ap, ac, rfl, -, -⟩ := hu
  obtain ⟨bp, bc, rfl, -, -⟩ := hv
  clear ha hb hab
  go_enter Tryd.func84, Tryd.ntmps84
  go_wp2_with fail
  go_loopw [5, 6, 7] (fun o c i wr => ∃ (k : Nat) (out : List Int) (cr : Int), k ≤ a.length ∧ i = .int .i64 k ∧ c = .int .i64 cr ∧ Hid (RestRel a b out k cr) ∧ 0 ≤ cr ∧ cr ≤ 1 ∧
      Hid (wr.ownsRow w.heap.size 3 1 o out.length (out.map (Value.int .i64))) ∧ Hid (Below w.heap.size w wr)) (fun _ _ i _ => a.length - (intOf i).toNat)
  case atStart => exact ⟨0, [], 0, Nat.zero_le _, rfl, rfl, Lib.hid (RestRel.start a b), by omega, by omega, Lib.hid (World.ownsRow_nil _ _ _ _), Lib.hid (Below.refl _ _)⟩
  case round =>
    obtain ⟨k, out, cr, hk, rfl, rfl, hR, hc0, hc1, hown, hnx⟩ := hrel
    have HAr := HU.out.below hnx.out
    have HBr := HV.out.below hnx.out
    have hlo := Lib.hid hR.out.2.1
    have hol : out.length ≤ 1099511627775 := by have := hlo.out; omega
    by_cases hlt : k < a.length
    · have HA1 := Lib.hid (fun w1 h => digit_any _ a k k (Lib.hid rfl) w1 (HAr.below h))
      have HB1 := Lib.hid (fun w1 h => digit_any _ b k k (Lib.hid rfl) w1 (HBr.below h))
      have da := HD.out.1.getD k
      have db := HD.out.2.1.getD k
      have hS := Lib.hid (fun (x y : Int) (hx : a.getD k 0 = x) (hy : b.getD k 0 = y) (hn : x - y - cr < 0) => hR.out.less HD.out.1 HD.out.2.1 x y hx hy hn)
      have hT := Lib.hid (fun (x y : Int) (hx : a.getD k 0 = x) (hy : b.getD k 0 = y) (hn : 0 ≤ x - y - cr) => hR.out.more HD.out.1 HD.out.2.1 x y hx hy hn)
      generalize hx : a.getD k 0 = x at *
      generalize hy : b.getD k 0 = y at *
      have hS2 := Lib.hid (hS.out x y rfl rfl)
      have hT2 := Lib.hid (hT.out x y rfl rfl)
      clear hx hy hS hT hR HAr HBr HU HV HD
      obtain ⟨x1, x2⟩ := da
      obtain ⟨y1, y2⟩ := db
      have hsz := hnx.out.size
      by_cases hneg : x - y - cr < 0
      · go_wp2_with fail
        refine (HA1.out _ (Below.refl _ _)).mono ?_; rintro e w' ⟨rfl, rfl⟩
        go_wp2_with fail
        refine (HB1.out _ (Below.refl _ _)).mono ?_; rintro e w' ⟨rfl, rfl⟩
        go_wp2_with (at_builtin; refine wpList_append_own _ rfl _ _ 26 rfl w.heap.size 3 i0 (.int .i64 0) 1 8 Tryd.underlying26 hi hz0 hz1 hz2 rfl (by decide) _ _ _ rfl (hown.out.alloc _) ⟨wr.heap.size, 0, none⟩ 1 1 [.int .i64 (x - y - cr + 1000)] rfl rfl (cell_one_new _ _ _) (one_int _ _) (room63 (by omega)) (room47 (by omega)) (by simp; omega) ?_; intro v' w1 hown' hgrow _)
        have hP := Lib.hid (own_push rfl hnx.out.size hnx.out hown.out hown' hgrow)
        clear hown' hgrow hown hnx hsz
        go_wp2_with fail
        go_roundw
        case rel => exact ⟨k + 1, out ++ [x - y - cr + 1000], 1, by omega, by go_num, rfl, Lib.hid (hS2.out hneg), by omega, by omega, Lib.hid hP.out.1, Lib.hid hP.out.2⟩
        case measure => simp [intOf]; omega
      · have hpos : 0 ≤ x - y - cr := by omega
        go_wp2_with fail
        refine (HA1.out _ (Below.refl _ _)).mono ?_; rintro e w' ⟨rfl, rfl⟩
        go_wp2_with fail
        refine (HB1.out _ (Below.refl _ _)).mono ?_; rintro e w' ⟨rfl, rfl⟩
        go_wp2_with (at_builtin; refine wpList_append_own _ rfl _ _ 26 rfl w.heap.size 3 i0 (.int .i64 0) 1 8 Tryd.underlying26 hi hz0 hz1 hz2 rfl (by decide) _ _ _ rfl (hown.out.alloc _) ⟨wr.heap.size, 0, none⟩ 1 1 [.int .i64 (x - y - cr)] rfl rfl (cell_one_new _ _ _) (one_int _ _) (room63 (by omega)) (room47 (by omega)) (by simp; omega) ?_; intro v' w1 hown' hgrow _)
        have hP := Lib.hid (own_push rfl hnx.out.size hnx.out hown.out hown' hgrow)
        clear hown' hgrow hown hnx hsz
        go_wp2_with fail
        go_roundw
        case rel => exact ⟨k + 1, out ++ [x - y - cr], 0, by omega, by go_num, rfl, Lib.hid (hT2.out hpos), by omega, by omega, Lib.hid hP.out.1, Lib.hid hP.out.2⟩
        case measure => simp [intOf]; omega
    · obtain rfl : k = a.length := by omega
      have hE := hR.out.stop HD.out.2.1 HD.out.1 HD.out.2.2
      have hE := Lib.hid hE
      clear hR HAr HBr HU HV HD
      go_wp2_with fail
      go_ret
      exact ⟨_, out, rfl, Ints.own hown.out, Typed.own hown.out, hE.out.2.1, hE.out.1, by have := hE.out.2.2; omega, hnx.out⟩
end Go.Proofs.YtpfcacjcikhamaaDoor
