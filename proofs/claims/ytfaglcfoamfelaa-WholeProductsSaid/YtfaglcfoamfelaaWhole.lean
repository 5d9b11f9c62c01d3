/- What the calls of package whole return, for every input: contracts over the translation. -/
import Derived.Test.YtfaglcfoamfelaaProg
import Derived.Test.YtfaglcfoamfelaaNums
import Derived.WalkKit
import Derived.WalkSpells
import Derived.WalkLawsBesides
import Derived.Deep.QuietTactic
import Derived.BigQuiet
import Derived.Lib.Hide
namespace Go.Proofs.Ytfaglcfoamfelaa
open Go.RowKit
set_option maxHeartbeats 400000 in
theorem abs_any (a : Int) (h1 : -9223372036854775808 ≤ a) (h2 : a ≤ 9223372036854775807) (w : World) :
    Calls Try.prog 17 #[.int .i64 a] w fun e w' => e = .returned (.int .u64 (a.natAbs : Int)) ∧ w = w' := by
  by_cases h : a < 0
  · go_enter Try.func17, Try.ntmps17
    go_wp2
    go_ret
    exact ⟨ret_int (by simp only [IntKind.wrap_u64]; omega), rfl⟩
  · go_enter Try.func17, Try.ntmps17
    go_wp2
    go_ret
    exact ⟨ret_int (by omega), rfl⟩
theorem ret_half (a b : Int) (h1 : -9223372036854775808 ≤ a) (h2 : a ≤ 9223372036854775807) (h3 : -9223372036854775808 ≤ b) (h4 : b ≤ 9223372036854775807) :
    wrap64 (a / 2 + b / 2 + bits BinOp.and IntKind.i64 (bits BinOp.and IntKind.i64 a b) 1) = (a + b) / 2 := by
  rw [i64_and_odd, half_sum]
  exact wrap64_in (by omega) (by omega)
set_option maxHeartbeats 400000 in
theorem half_any (a b : Int) (h1 : -9223372036854775808 ≤ a) (h2 : a ≤ 9223372036854775807) (h3 : -9223372036854775808 ≤ b) (h4 : b ≤ 9223372036854775807) (w : World) :
    Calls Try.prog 21 #[.int .i64 a, .int .i64 b] w fun e w' => e = .returned (.int .i64 ((a + b) / 2)) ∧ w = w' := by
  go_enter Try.func21, Try.ntmps21
  go_wp2
  go_ret
  exact ⟨ret_int (ret_half a b h1 h2 h3 h4), rfl⟩
theorem bool_ne {x y : Bool} (h : (!x == y) = true) : x ≠ y := by cases x <;> cases y <;> simp_all
theorem div_way1 {a b : Int} (hq : -9223372036854775808 ≤ a.tdiv b ∧ a.tdiv b ≤ 9223372036854775807) (h0 : b ≠ 0) (h : a.tmod b = 0) : wrap64 (a.tdiv b) = a.fdiv b ∧ 0 = a.fmod b := by
  have hs := floor_same a b h0 (.inl h)
  exact ⟨by rw [hs.1]; exact wrap64_in hq.1 hq.2, by rw [hs.2, h]⟩
theorem div_way2 {a b : Int} (hq : -9223372036854775808 ≤ a.tdiv b ∧ a.tdiv b ≤ 9223372036854775807) (hf : -9223372036854775808 ≤ a.fdiv b ∧ a.fdiv b ≤ 9223372036854775807)
    (h3 : -9223372036854775808 ≤ b) (h4 : b ≤ 9223372036854775807) (h0 : b ≠ 0) (h : ¬ a.tmod b = 0) (g : (a.tmod b != 0) = true ∧ (!decide (a.tmod b < 0) == decide (b < 0)) = true) :
    wrap64 (wrap64 (a.tdiv b) - 1) = a.fdiv b ∧ wrap64 (a.tmod b + b) = a.fmod b := by
  have g2 := bool_ne g.2
  have hn : ¬ (a.tmod b < 0 ↔ b < 0) := fun e => g2 (by simp only [e])
  have ho := floor_other a b h0 h hn
  have hm := tmod_bounds a b h0
  rw [ho.1] at hf
  exact ⟨by rw [ho.1, wrap64_in hq.1 hq.2]; exact wrap64_in hf.1 hf.2, by rw [ho.2]; exact wrap64_in (by omega) (by omega)⟩
theorem div_way3 {a b : Int} (hq : -9223372036854775808 ≤ a.tdiv b ∧ a.tdiv b ≤ 9223372036854775807) (h0 : b ≠ 0) (h : ¬ a.tmod b = 0) (g : (a.tmod b != 0) = false ∨ (!decide (a.tmod b < 0) == decide (b < 0)) = false) :
    wrap64 (a.tdiv b) = a.fdiv b ∧ a.tmod b = a.fmod b := by
  have hs := floor_same a b h0 (.inr (by
    rcases g with g | g
    · simp at g; exact absurd g h
    · by_cases x : a.tmod b < 0 <;> by_cases y : b < 0
      · exact ⟨fun _ => y, fun _ => x⟩
      · simp [x, y] at g
      · simp [x, y] at g
      · exact ⟨fun e => absurd e x, fun e => absurd e y⟩))
  exact ⟨by rw [hs.1]; exact wrap64_in hq.1 hq.2, by rw [hs.2]⟩
theorem div_none (a b : Int) (w : World) (hx : b = 0 ∨ a = -9223372036854775808 ∧ b = -1) :
    Calls Try.prog 6 #[.int .i64 a, .int .i64 b] w fun e w' => e = .returned (.tuple #[.int .i64 0, .int .i64 0, .bool false]) ∧ ∃ n, w' = w.drewN n := by
  rcases hx with rfl | ⟨rfl, rfl⟩
  · go_enter Try.func6, Try.ntmps6
    go_wp2
    go_ret3
    exact ⟨rfl, 0, rfl⟩
  · go_enter Try.func6, Try.ntmps6
    go_wp2
    go_ret3
    exact ⟨rfl, 0, rfl⟩
set_option maxHeartbeats 400000 in
theorem div_any (a b : Int) (h1 : -9223372036854775808 ≤ a) (h2 : a ≤ 9223372036854775807) (h3 : -9223372036854775808 ≤ b) (h4 : b ≤ 9223372036854775807) (h0 : b ≠ 0) (hx : ¬ (a = -9223372036854775808 ∧ b = -1)) (w : World) :
    Calls Try.prog 6 #[.int .i64 a, .int .i64 b] w fun e w' => e = .returned (.tuple #[.int .i64 (a.fdiv b), .int .i64 (a.fmod b), .bool true]) ∧ ∃ n, w' = w.drewN n := by
  have e0 : (b == 0) = false := by simpa using h0
  have hq := Lib.hid (tdiv_fits a b h1 h2 h0 hx)
  have hf := Lib.hid (floor_fits a b h1 h2 h0 hx)
  have e12 : (a == -9223372036854775808) = false ∨ ((a == -9223372036854775808) = true ∧ (b == -1) = false) := by
    by_cases ha : a = -9223372036854775808
    · exact .inr ⟨by simpa using ha, by simp; omega⟩
    · exact .inl (by simpa using ha)
  clear hx
  rcases e12 with e1 | ⟨e1, e2⟩
  all_goals
    go_enter Try.func6, Try.ntmps6
    go_wp2
    go_quiet (fail)
    go_wp2
    all_goals go_ret3
    all_goals first | exact ⟨ret_iib (div_way1 hq.out h0 ‹_›).1 (div_way1 hq.out h0 ‹_›).2 rfl, _, rfl⟩ | exact ⟨ret_iib (div_way2 hq.out hf.out h3 h4 h0 ‹_› ‹_›).1 (div_way2 hq.out hf.out h3 h4 h0 ‹_› ‹_›).2 rfl, _, rfl⟩ | exact ⟨ret_iib (div_way3 hq.out h0 ‹_› ‹_›).1 (div_way3 hq.out h0 ‹_› ‹_›).2 rfl, _, rfl⟩
theorem add64_any (x y c : Int) (hx : 0 ≤ x) (hy : 0 ≤ y) (hc0 : 0 ≤ c) (hc : c ≤ 1) (w : World) : (callFunc 28 #[.int .u64 x, .int .u64 y, .int .u64 c]).run Try.prog w =
    .ok (.value (.tuple #[.int .u64 ((x + y + c) % 18446744073709551616), .int .u64 ((x + y + c) / 18446744073709551616)])) w := by
  rw [run_callFunc_extern Try.func28 (by kernel_rfl) (by kernel_rfl) (by kernel_rfl) (e := add64Entry) (by kernel_rfl), run_add64 x y c hx hy hc0 hc]
  rfl
theorem add64_0 (x y : Int) (hx : 0 ≤ x) (hy : 0 ≤ y) (w : World) : (callFunc 28 #[.int .u64 x, .int .u64 y, .int .u64 0]).run Try.prog w =
    .ok (.value (.tuple #[.int .u64 ((x + y) % 18446744073709551616), .int .u64 ((x + y) / 18446744073709551616)])) w := by
  simpa using add64_any x y 0 hx hy (Int.le_refl 0) (by decide) w
/-- A slice value reads as these numbers: where there is one, its cells stand in a block from there on. -/
def Ints (k : IntKind) (w : World) (v : Value) (zs : List Int) : Prop :=
  ∃ a cap, v = .slice a zs.length cap ∧ zs.length ≤ cap ∧ (zs = [] ∨ ∃ b off, a = some ⟨b, off, none⟩ ∧ b < w.heap.size ∧ ∀ i, i < zs.length → w.cell? ⟨b, off + i, none⟩ = some (.int k (zs.getD i 0)))
theorem sum_bound_take (zs : List Int) (hz : ∀ x ∈ zs, -9223372036854775808 ≤ x ∧ x ≤ 9223372036854775807) (hn : zs.length ≤ 4611686018427387904) (k : Nat) :
    -85070591730234615865843651857942052864 ≤ sumOf (zs.take k) ∧ sumOf (zs.take k) ≤ 85070591730234615865843651857942052864 := by
  have h := sumOf_bound (zs.take k) (fun x hx => hz x (List.mem_of_mem_take hx))
  have hl : (zs.take k).length ≤ zs.length := by rw [List.length_take]; omega
  omega
theorem uwrap_range (x : Int) : 0 ≤ IntKind.u64.wrap x ∧ IntKind.u64.wrap x ≤ 18446744073709551615 := by rw [IntKind.wrap_u64]; omega
theorem carry_range (l x : Int) (h1 : 0 ≤ l) (h2 : l ≤ 18446744073709551615) : 0 ≤ (l + IntKind.u64.wrap x) / 18446744073709551616 ∧ (l + IntKind.u64.wrap x) / 18446744073709551616 ≤ 1 := by rw [IntKind.wrap_u64]; omega
theorem low_round (zs : List Int) (k : Nat) (S x : Int) (hs : zs.take (k + 1) = zs.take k ++ [x]) (hS : sumOf (zs.take k) = S) :
    Value.int .u64 ((lowOf S + IntKind.u64.wrap x) % 18446744073709551616) = .int .u64 (lowOf (sumOf (zs.take (k + 1)))) := by
  rw [hs, sumOf_snoc, hS, ← low_step, IntKind.wrap_u64]
theorem high_round (zs : List Int) (k : Nat) (S x : Int) (hs : zs.take (k + 1) = zs.take k ++ [x]) (hS : sumOf (zs.take k) = S) (h1 : -9223372036854775808 ≤ x) (h2 : x ≤ 9223372036854775807) :
    Value.int .u64 ((highOf S + IntKind.u64.wrap (x / 9223372036854775808) + (lowOf S + IntKind.u64.wrap x) / 18446744073709551616) % 18446744073709551616) = .int .u64 (highOf (sumOf (zs.take (k + 1)))) := by
  rw [hs, sumOf_snoc, hS, ← high_step S x h1 h2, IntKind.wrap_u64, IntKind.wrap_u64]
set_option maxHeartbeats 400000 in
theorem sum_any (v : Value) (zs : List Int) (w : World) (hv : Ints .i64 w v zs) (hn : zs.length ≤ 4611686018427387904) (hz : ∀ x ∈ zs, -9223372036854775808 ≤ x ∧ x ≤ 9223372036854775807) :
    Calls Try.prog 20 #[v] w fun e w' => e = .returned (.tuple #[.int .i64 (clip (sumOf zs)), .bool (fitB (sumOf zs))]) ∧ w = w' := by
  obtain ⟨a, cap, rfl, hc, ha⟩ := hv
  have HZ := Lib.hid hz
  clear hz
  have HA := Lib.hid ha
  clear ha
  go_enter Try.func20, Try.ntmps20
  go_wp2
  go_loop [4, 5, 12] (fun h l i => ∃ k : Nat, k ≤ zs.length ∧ h = .int .u64 (highOf (sumOf (zs.take k))) ∧ l = .int .u64 (lowOf (sumOf (zs.take k))) ∧ i = .int .i64 k) (fun _ _ i => zs.length - (intOf i).toNat)
  case atStart => exact ⟨0, Nat.zero_le _, rfl, rfl, rfl⟩
  case round =>
    obtain ⟨k, hk, rfl, rfl, rfl⟩ := hrel
    by_cases hlt : k < zs.length
    · have hne : zs ≠ [] := by intro e; rw [e] at hlt; simp at hlt
      obtain ⟨b, off, rfl, hb, hcell⟩ := HA.out.resolve_left hne
      have hx := HZ.out (zs.getD k 0) (by rw [List.getD_eq_getElem?_getD, List.getElem?_eq_getElem hlt]; simp)
      have hc0 := hcell k hlt
      have hs := Lib.hid (take_snoc zs k hlt 0)
      clear hcell HZ HA
      generalize zs.getD k 0 = x at *
      generalize hS : sumOf (zs.take k) = S at *
      have hSS := Lib.hid hS
      clear hS hne
      obtain ⟨x1, x2⟩ := hx
      obtain ⟨l1, l2⟩ := low_range S
      obtain ⟨g1, g2⟩ := high_range S
      obtain ⟨u1, u2⟩ := uwrap_range x
      obtain ⟨v1, v2⟩ := uwrap_range (x / 9223372036854775808)
      obtain ⟨c1, c2⟩ := carry_range (lowOf S) x l1 l2
      go_wp2_with (first | simp only [add64_0 _ _ l1 u1] | simp only [add64_any _ _ _ g1 v1 c1 c2])
      go_round
      case rel => exact ⟨k + 1, by omega, high_round zs k S x hs.out hSS.out x1 x2, low_round zs k S x hs.out hSS.out, by go_num⟩
      case measure => simp [intOf]; omega
    · have hke : k = zs.length := by omega
      have hb := sum_bound_take zs HZ.out hn k
      have hke' := Lib.hid (by rw [hke, List.take_length] : zs.take k = zs)
      clear HA HZ hke
      generalize hS : sumOf (zs.take k) = S at *
      have hSS := Lib.hid hS
      clear hS
      obtain ⟨b1, b2⟩ := hb
      go_wp2
      all_goals go_ret2
      all_goals have hT : sumOf zs = S := by rw [← hSS.out, hke'.out]
      all_goals rw [hT]
      · exact ⟨ret_nofit (sum_no b1 b2 ‹_›) rfl rfl, rfl⟩
      · have hy := sum_yes b1 b2 ‹_›
        exact ⟨ret_fit hy.1 hy.2 (by rw [low_end]; exact wrap64_in hy.1 hy.2) rfl, rfl⟩
end Go.Proofs.Ytfaglcfoamfelaa
