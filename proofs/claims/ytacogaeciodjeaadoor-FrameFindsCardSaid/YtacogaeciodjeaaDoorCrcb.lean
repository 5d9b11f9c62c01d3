/- What package crc's and the reference's Sum and More return; shifts, the table of four shifts, Patch. -/
import Derived.Test.YtacogaeciodjeaaDoorCrca
import Derived.Test.YtacogaeciodjeaaDoorRefd
import Derived.WalkSpells
import Derived.WalkLawsBesides
import Derived.Lib.Hide
import Derived.Deep.QuietTactic
import Derived.BigQuiet
namespace Go.Proofs.YtacogaeciodjeaaDoor
set_option maxRecDepth 100000
open Go.RowKit
set_option linter.unusedVariables false
theorem ret_i {k : IntKind} {a b : Int} (h : a = b) : Ending.returned (.int k a) = .returned (.int k b) := by rw [h]
/-- The table stands as its text lays it. -/
def Fours (w : World) : Prop := ∀ j, j < 16 → w.cell? ⟨0, j, none⟩ = some (.int .u32 ((foursN.getD j 0 : Nat) : Int))
set_option maxHeartbeats 1000000 in
theorem shift_any (r : Nat) (hr : r < 4294967296) (w : World) (hT : Fours w) :
    Calls Tryd.prog 25 #[.int .u32 r] w fun e w' => e = .returned (.int .u32 (sh8 r : Nat)) ∧ w = w' := by
  have HT := Lib.hid hT
  clear hT
  go_enter Tryd.func25, Tryd.ntmps25
  go_wp2_with fail
  go_loop [0, 3] (fun x i => ∃ k y : Nat, k ≤ 2 ∧ i = .int .i64 k ∧ x = .int .u32 y ∧ Hid ((k = 0 ∧ y = r) ∨ (k = 1 ∧ y = sh4 r) ∨ (k = 2 ∧ y = sh8 r))) (fun _ i => 2 - (intOf i).toNat)
  case atStart => exact ⟨0, r, by omega, rfl, rfl, Lib.hid (.inl ⟨rfl, rfl⟩)⟩
  case round =>
    obtain ⟨k, y, hk, rfl, rfl, hH⟩ := hrel
    by_cases hlt : k < 2
    · have hy : y < 4294967296 := by
        rcases hH.out with ⟨_, h⟩ | ⟨_, h⟩ | ⟨_, h⟩
        · omega
        · rw [h]; exact sh4_lt hr
        · rw [h]; exact sh8_lt hr
      have hnext : (k = 0 → sh4 y = sh4 r) ∧ (k = 1 → sh4 y = sh8 r) := by
        rcases hH.out with ⟨h0, h⟩ | ⟨h0, h⟩ | ⟨h0, h⟩
        · exact ⟨fun _ => by rw [h], fun h1 => by omega⟩
        · exact ⟨fun h1 => by omega, fun _ => by rw [h]; rfl⟩
        · omega
      have hcell := HT.out (y % 16) (by omega)
      have hd : (y : Int) / 16 = ((y / 16 : Nat) : Int) := by omega
      have ha := and15 y hy
      have hq : y / 16 < 4294967296 := by omega
      have ho : y % 16 < 16 := by omega
      have hf := (fours_top (y % 16) ho).2
      have hx := bits_xor_u32_nat (y / 16) _ hq hf
      rw [sh4_eq] at hx
      have hn := Lib.hid hnext
      clear hnext hH hq hf
      generalize sh4 y = z at *
      generalize foursN.getD (y % 16) 0 = f at *
      generalize y / 16 = q at *
      generalize y % 16 = o at *
      go_wp2
      go_round
      case rel =>
        refine ⟨k + 1, z, by omega, by go_num, rfl, Lib.hid ?_⟩
        have h1 := hn.out
        by_cases h0 : k = 0
        · exact .inr (.inl ⟨by omega, h1.1 h0⟩)
        · exact .inr (.inr ⟨by omega, h1.2 (by omega)⟩)
      case measure => simp [intOf]; omega
    · have hy : y = sh8 r := by
        rcases hH.out with ⟨h0, h⟩ | ⟨h0, h⟩ | ⟨h0, h⟩
        · omega
        · omega
        · exact h
      subst hy
      go_wp2
      go_ret
      exact ⟨rfl, rfl⟩
theorem byt_getD {b : List Int} (hb : Byt b) (k : Nat) : 0 ≤ b.getD k 0 ∧ b.getD k 0 ≤ 255 := by
  by_cases h : k < b.length
  · have : b.getD k 0 = b[k] := by simp [List.getD, h]
    rw [this]; exact hb _ (List.getElem_mem h)
  · simp [List.getD, List.getElem?_eq_none (by omega : b.length ≤ k)]
theorem take_more (b : List Int) (k : Nat) (h : k < b.length) : b.take (k + 1) = b.take k ++ [b.getD k 0] := by
  rw [List.take_succ_eq_append_getElem h]; simp [List.getD, h]
theorem regF_take {b : List Int} (hb : Byt b) (c k : Nat) (h : k < b.length) : regF c (b.take (k + 1)) = sh8 (regF c (b.take k) ^^^ (b.getD k 0).toNat) := by
  rw [take_more b k h, regF_snoc]
theorem byt_take {b : List Int} (hb : Byt b) (k : Nat) : Byt (b.take k) := fun x hx => hb x (List.mem_of_mem_take hx)
theorem byt_drop {b : List Int} (hb : Byt b) (k : Nat) : Byt (b.drop k) := fun x hx => hb x (List.mem_of_mem_drop hx)
set_option maxHeartbeats 1000000 in
theorem pmore_any (c : Nat) (v : Value) (b : List Int) (w : World) (hc : c < 4294967296) (hv : Ints .u8 w v b) (hb : Byt b) (hl : b.length ≤ 1099511627776) (hT : Fours w) :
    Calls Tryd.prog 24 #[.int .u32 c, v] w fun e w' => e = .returned (.int .u32 (moreN c b : Nat)) ∧ w = w' := by
  obtain ⟨a, cap, rfl, hcap, hcells⟩ := hv
  have HV : Hid (Ints .u8 w (.slice a b.length cap) b) := Lib.hid ⟨a, cap, rfl, hcap, hcells⟩
  have HT := Lib.hid hT
  have hn := not32 c hc
  have HB := Lib.hid hb
  clear hT hcap hcells hb
  go_enter Tryd.func24, Tryd.ntmps24
  go_wp2_with fail
  clear hn
  go_loop [5, 12] (fun r i => ∃ (k y : Nat), k ≤ b.length ∧ i = .int .i64 k ∧ r = .int .u32 y ∧ Hid (y = regF (4294967295 - c) (b.take k))) (fun _ i => b.length - (intOf i).toNat)
  case atStart => exact ⟨0, 4294967295 - c, Nat.zero_le _, rfl, rfl, Lib.hid rfl⟩
  case round =>
    obtain ⟨k, y, hk, rfl, rfl, hH⟩ := hrel
    have hy : y < 4294967296 := by rw [hH.out]; exact regF_lt (byt_take HB.out k) (by omega)
    by_cases hlt : k < b.length
    · obtain ⟨b1, o1, hp1, hb1, hc1⟩ := HV.out.cell (i := k) hlt
      subst hp1
      have hd := byt_getD HB.out k
      have hst := Lib.hid (regF_take HB.out (4294967295 - c) k hlt)
      generalize b.getD k 0 = x at *
      obtain ⟨X, rfl⟩ := Int.eq_ofNat_of_zero_le hd.1
      have hx := bits_xor_u32_nat y X hy (by omega)
      have hz : y ^^^ X < 4294967296 := Nat.xor_lt_two_pow (n := 32) hy (by omega)
      have hS := Lib.hid (shift_any (y ^^^ X) hz w HT.out)
      have hE : Hid (sh8 (y ^^^ X) = regF (4294967295 - c) (b.take (k + 1))) := Lib.hid (by rw [hst.out, hH.out]; rfl)
      clear hst hH hb1
      generalize sh8 (y ^^^ X) = q at *
      generalize y ^^^ X = z at *
      go_wp2_with fail
      refine (hS.out).mono ?_; rintro e w' ⟨rfl, rfl⟩
      go_wp2_with fail
      go_round
      case rel => exact ⟨k + 1, q, by omega, by go_num, rfl, hE⟩
      case measure => simp [intOf]; omega
    · obtain rfl : k = b.length := by omega
      have hn := not32 y hy
      have hE : y = regF (4294967295 - c) b := by rw [hH.out, List.take_length]
      have hE := Lib.hid hE
      clear hH
      go_wp2_with fail
      go_ret
      exact ⟨ret_i (by unfold moreN; rw [← hE.out]; exact hn), rfl⟩
set_option maxHeartbeats 1000000 in
theorem psum_any (v : Value) (b : List Int) (w : World) (hv : Ints .u8 w v b) (hb : Byt b) (hl : b.length ≤ 1099511627776) (hT : Fours w) :
    Calls Tryd.prog 21 #[v] w fun e w' => e = .returned (.int .u32 (moreN 0 b : Nat)) ∧ w = w' := by
  have H := Lib.hid (pmore_any 0 v b w (by decide) hv hb hl hT)
  obtain ⟨a, cap, rfl, hcap, hcells⟩ := hv
  clear hcap hcells hb hT
  go_enter Tryd.func21, Tryd.ntmps21
  go_wp2_with fail
  refine (H.out).mono ?_; rintro e w' ⟨rfl, rfl⟩
  go_wp2_with fail
  go_ret
  exact ⟨rfl, rfl⟩
/-- k single shifts. -/
def shK : Nat → Nat → Nat
  | 0, r => r
  | k + 1, r => sh1 (shK k r)
theorem shK_lt (k : Nat) {r : Nat} (h : r < 4294967296) : shK k r < 4294967296 := by
  induction k with
  | zero => exact h
  | succ k ih => exact sh1_lt ih
theorem shK_8 (r : Nat) : shK 8 r = sh8 r := rfl
theorem sh1_odd {y : Nat} (h : y % 2 = 1) : sh1 y = y / 2 ^^^ 2197175160 := by unfold sh1; rw [if_pos h]; rfl
theorem sh1_even {y : Nat} (h : ¬ y % 2 = 1) : sh1 y = y / 2 := by unfold sh1; rw [if_neg h, Nat.xor_zero]
set_option maxHeartbeats 1000000 in
theorem rmore_any (c : Nat) (v : Value) (b : List Int) (w : World) (hc : c < 4294967296) (hv : Ints .u8 w v b) (hb : Byt b) (hl : b.length ≤ 1099511627776) :
    Calls Tryd.prog 22 #[.int .u32 c, v] w fun e w' => e = .returned (.int .u32 (moreN c b : Nat)) ∧ w = w' := by
  obtain ⟨a, cap, rfl, hcap, hcells⟩ := hv
  have HV : Hid (Ints .u8 w (.slice a b.length cap) b) := Lib.hid ⟨a, cap, rfl, hcap, hcells⟩
  have hn : (4294967295 : Int) - (c : Int) = ((4294967295 - c : Nat) : Int) := by omega
  have HB := Lib.hid hb
  clear hcap hcells hb
  go_enter Tryd.func22, Tryd.ntmps22
  go_wp2_with fail
  clear hn
  go_loop [5, 6] (fun r i => ∃ (k y : Nat), k ≤ b.length ∧ i = .int .i64 k ∧ r = .int .u32 y ∧ Hid (y = regF (4294967295 - c) (b.take k))) (fun _ i => b.length - (intOf i).toNat)
  case atStart => exact ⟨0, 4294967295 - c, Nat.zero_le _, rfl, by simp [*], Lib.hid rfl⟩
  case round =>
    obtain ⟨k, y, hk, rfl, rfl, hH⟩ := hrel
    have hy : y < 4294967296 := by rw [hH.out]; exact regF_lt (byt_take HB.out k) (by omega)
    by_cases hlt : k < b.length
    · obtain ⟨b1, o1, hp1, hb1, hc1⟩ := HV.out.cell (i := k) hlt
      subst hp1
      have hd := byt_getD HB.out k
      have hst := Lib.hid (regF_take HB.out (4294967295 - c) k hlt)
      generalize b.getD k 0 = x at *
      obtain ⟨X, rfl⟩ := Int.eq_ofNat_of_zero_le hd.1
      have hx := bits_xor_u32_nat y X hy (by omega)
      have hz : y ^^^ X < 4294967296 := Nat.xor_lt_two_pow (n := 32) hy (by omega)
      have hE : Hid (sh8 (y ^^^ X) = regF (4294967295 - c) (b.take (k + 1))) := Lib.hid (by rw [hst.out, hH.out]; rfl)
      clear hst hH hb1
      generalize y ^^^ X = z at *
      go_wp2_with fail
      clear hx hc1 hd
      go_loop [5, 7] (fun r i => ∃ (j q : Nat), j ≤ 8 ∧ i = .int .i64 j ∧ r = .int .u32 q ∧ Hid (q = shK j z)) (fun _ i => 8 - (intOf i).toNat)
      case atStart => exact ⟨0, z, by omega, rfl, rfl, Lib.hid rfl⟩
      case round =>
        obtain ⟨j, q, hj, rfl, rfl, hQ⟩ := hrel
        have hq : q < 4294967296 := by rw [hQ.out]; exact shK_lt j hz
        by_cases hj2 : j < 8
        · have hq2 : q / 2 < 4294967296 := by omega
          by_cases ho : q % 2 = 1
          · have e1 : (q : Int) % 2 = 1 := by omega
            have e2 : (q : Int) / 2 = ((q / 2 : Nat) : Int) := by omega
            have e3 := bits_xor_u32_nat (q / 2) 2197175160 hq2 (by decide)
            have hN := Lib.hid (sh1_odd ho)
            clear ho
            generalize q / 2 ^^^ 2197175160 = t at *
            generalize q / 2 = p at *
            have e3 : bits BinOp.xor IntKind.u32 (p : Int) 2197175160 = (t : Int) := e3
            go_wp2_with fail
            go_round
            case rel => exact ⟨j + 1, t, by omega, by go_num, rfl, Lib.hid (by rw [← hN.out, hQ.out]; rfl)⟩
            case measure => simp [intOf]; omega
          · have e1 : (q : Int) % 2 = 0 := by omega
            have e2 : (q : Int) / 2 = ((q / 2 : Nat) : Int) := by omega
            have hN := Lib.hid (sh1_even ho)
            clear ho
            generalize q / 2 = p at *
            go_wp2_with fail
            go_round
            case rel => exact ⟨j + 1, p, by omega, by go_num, rfl, Lib.hid (by rw [← hN.out, hQ.out]; rfl)⟩
            case measure => simp [intOf]; omega
        · obtain rfl : j = 8 := by omega
          have hF : Hid (q = regF (4294967295 - c) (b.take (k + 1))) := Lib.hid (by rw [hQ.out, shK_8]; exact hE.out)
          clear hQ hE
          go_wp2_with fail
          go_round
          case rel => exact ⟨k + 1, q, by omega, by go_num, rfl, hF⟩
          case measure => simp [intOf]; omega
    · obtain rfl : k = b.length := by omega
      have hn : (4294967295 : Int) - (y : Int) = ((4294967295 - y : Nat) : Int) := by omega
      have hE : y = regF (4294967295 - c) b := by rw [hH.out, List.take_length]
      have hE := Lib.hid hE
      clear hH
      go_wp2_with fail
      go_ret
      exact ⟨ret_i (by unfold moreN; rw [← hE.out]; exact hn), rfl⟩
set_option maxHeartbeats 1000000 in
theorem rsum_any (v : Value) (b : List Int) (w : World) (hv : Ints .u8 w v b) (hb : Byt b) (hl : b.length ≤ 1099511627776) :
    Calls Tryd.prog 16 #[v] w fun e w' => e = .returned (.int .u32 (moreN 0 b : Nat)) ∧ w = w' := by
  have H := Lib.hid (rmore_any 0 v b w (by decide) hv hb hl)
  obtain ⟨a, cap, rfl, hcap, hcells⟩ := hv
  clear hcap hcells hb
  go_enter Tryd.func16, Tryd.ntmps16
  go_wp2_with fail
  refine (H.out).mono ?_; rintro e w' ⟨rfl, rfl⟩
  go_wp2_with fail
  go_ret
  exact ⟨rfl, rfl⟩
end Go.Proofs.YtacogaeciodjeaaDoor
