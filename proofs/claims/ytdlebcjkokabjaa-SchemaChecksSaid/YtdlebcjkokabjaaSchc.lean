/- Layer 11: the program's parts of Check: Sizes and views. -/
import Derived.Test.YtdlebcjkokabjaaSchb
namespace Go.Proofs.Ytdlebcjkokabjaa
set_option maxRecDepth 100000
open Go.RowKit
set_option linter.unusedVariables false
theorem and_high (x n : Nat) (hn : n ≤ 32) (hx : x < 4294967296) : x &&& (4294967296 - 2 ^ n) = (x >>> n) <<< n := by
  have e : 4294967296 - 2 ^ n = (2 ^ (32 - n) - 1) <<< n := by
    rw [Nat.shiftLeft_eq, Nat.sub_mul, ← Nat.pow_add, Nat.sub_add_cancel hn]; simp
  rw [e]
  apply Nat.eq_of_testBit_eq
  intro i
  rw [Nat.testBit_and, Nat.testBit_shiftLeft, Nat.testBit_shiftLeft, Nat.testBit_two_pow_sub_one, Nat.testBit_shiftRight]
  by_cases h1 : n ≤ i
  · by_cases h2 : i < 32
    · simp [h1, show i - n < 32 - n by omega, show n + (i - n) = i by omega]
    · have : x.testBit i = false := Nat.testBit_lt_two_pow (Nat.lt_of_lt_of_le (show x < 2 ^ 32 by simpa using hx) (Nat.pow_le_pow_right (by decide) (by omega)))
      simp [h1, show n + (i - n) = i by omega, this]
  · simp [h1]
/-- Bits beyond those of n dimensions. -/
theorem andNot_full {x : Int} {n : Nat} (hn : n ≤ 6) (h0 : 0 ≤ x) (h1 : x ≤ 4294967295) : (bits .andNot .u32 x (2 ^ n - 1) != 0) = decide ((2 : Int) ^ n ≤ x) := by
  have hf := full_wrap hn
  rw [u32_andNot x _ h0 (by omega) (by omega) (by omega)]
  have e : 4294967295 - ((2 : Int) ^ n - 1).toNat = 4294967296 - 2 ^ n := by
    rcases (by omega : n = 0 ∨ n = 1 ∨ n = 2 ∨ n = 3 ∨ n = 4 ∨ n = 5 ∨ n = 6) with rfl | rfl | rfl | rfl | rfl | rfl | rfl <;> decide
  rw [e, and_high _ n (by omega) (by omega), Nat.shiftLeft_eq, Nat.shiftRight_eq_div_pow]
  have h2 : ((2 ^ n : Nat) : Int) = 2 ^ n := by rw [Int.natCast_pow]; rfl
  have hp : 0 < 2 ^ n := Nat.pow_pos (by decide)
  have hx : (x.toNat : Int) = x := by omega
  rw [← h2]
  generalize 2 ^ n = p at *
  by_cases h : p ≤ x.toNat
  · have hd : 1 ≤ x.toNat / p := (Nat.le_div_iff_mul_le hp).2 (by omega)
    have hm : 1 ≤ x.toNat / p * p := Nat.mul_pos hd hp
    rw [decide_eq_true (by omega)]
    exact bne_iff_ne.2 (by omega)
  · have hd : x.toNat / p = 0 := Nat.div_eq_of_lt (by omega)
    rw [hd, decide_eq_false (by omega)]
    simp
theorem prod_step {p z : Int} (h0 : 1 ≤ p) (h1 : p ≤ 1099511627776) (h2 : 1 ≤ z) (h3 : z ≤ 4096) : 1 ≤ p * z ∧ p * z ≤ 4503599627370496 := by
  have a := Int.mul_le_mul h0 h2 (by omega) (by omega)
  have b := Int.mul_le_mul h1 h3 (by omega) (by omega)
  constructor <;> omega
set_option maxHeartbeats 2000000 in
theorem sizes_any (w : World) (v : Value) (ds : List (ByteArray × Int)) (h : Dims w v ds) (hw : ∀ d ∈ ds, -9223372036854775808 ≤ d.2 ∧ d.2 ≤ 9223372036854775807) :
    Calls Try.prog 33 #[v] w fun e w' => e = .returned (.bool (sizB ds)) ∧ Below w.heap.size w w' := by
  obtain ⟨a, cap, rfl, h1, h2, h3⟩ := h
  rcases h3 with rfl | ⟨b, off, rfl, hlt, hc⟩
  · go_enter Try.func33, Try.ntmps33
    go_wp2
    refine wp_loop_rounds 1 ?_
    rw [rounds_succ]
    go_wp2
    go_ret
    exact ⟨rfl, Below.refl _ _⟩
  · have HC := Lib.hid hc
    have HM := Lib.hid (@siz_good ds)
    have HH := Lib.hid (fun k => @siz_bad ds k)
    have HP := Lib.hid (fun k => @prod_next ds k)
    have HW := Lib.hid (fun k (hk : k < ds.length) => show -9223372036854775808 ≤ dz ds k ∧ dz ds k ≤ 9223372036854775807 by rw [dz_get hk]; exact hw _ (List.getElem_mem hk))
    generalize sizB ds = r at *
    clear hc hw
    go_enter Try.func33, Try.ntmps33
    go_wp2
    go_loopw [3, 8] (fun pv i wr => ∃ k : Nat, k ≤ ds.length ∧ i = .int .i64 k ∧ (∃ p : Int, pv = .int .u64 p ∧ 1 ≤ p ∧ p ≤ 1099511627776 ∧ Hid (p = prodL (ds.take k))) ∧ Hid (Below w.heap.size w wr) ∧ Hid (∀ j, j < k → sizAt ds j = true)) (fun _ i _ => ds.length - (intOf i).toNat)
    case atStart => exact ⟨0, Nat.zero_le _, rfl, ⟨1, rfl, by decide, by decide, Lib.hid rfl⟩, Lib.hid (Below.refl _ _), Lib.hid (fun j hj => by omega)⟩
    case round =>
      obtain ⟨k, hk, rfl, ⟨p, rfl, hp0, hp1, HE⟩, HB, HJ⟩ := hrel
      by_cases hlk : k < ds.length
      · obtain ⟨c0, c1⟩ := HC.out k hlk
        have c0 : wr.cell? ⟨b, off + k * 2, none⟩ = _ := (HB.out.cell (p := ⟨b, off + k * 2, none⟩) hlt).trans c0
        have c1 : wr.cell? ⟨b, off + k * 2 + 1, none⟩ = _ := (HB.out.cell (p := ⟨b, off + k * 2 + 1, none⟩) hlt).trans c1
        have HHk := Lib.hid (fun q => HH.out k hlk q)
        have HQ := Lib.hid (fun q : sizAt ds k = true => fun j (hj : j < k + 1) => if e : j = k then (e ▸ q : sizAt ds j = true) else HJ.out j (by omega))
        have HS := Lib.hid (show sizAt ds k = (decide (1 ≤ dz ds k) && decide (dz ds k ≤ 4096) && decide (p * dz ds k ≤ 1099511627776)) by unfold sizAt; rw [HP.out k hlk, ← HE.out])
        have HE1 := Lib.hid (show p * dz ds k = prodL (ds.take (k + 1)) by rw [HP.out k hlk, ← HE.out])
        have hW := HW.out k hlk
        have hBs := HB.out.size
        have HB1 := Lib.hid (HB.out.alloc hBs (.cells #[.string (dn ds k), .int .i64 (dz ds k)] 54))
        generalize dn ds k = x at *
        generalize dz ds k = z at *
        generalize sizAt ds k = t at *
        by_cases z1 : z < 1
        · have HR := Lib.hid (HHk.out (by rw [HS.out, decide_eq_false (p := 1 ≤ z) (by omega)]; rfl))
          clear hW
          go_wp2
          go_ret
          rw [HR.out]
          exact ⟨rfl, HB1.out⟩
        · by_cases z2 : 4096 < z
          · have HR := Lib.hid (HHk.out (by rw [HS.out, decide_eq_false (p := z ≤ 4096) (by omega)]; simp))
            clear hW
            go_wp2
            go_ret
            rw [HR.out]
            exact ⟨rfl, HB1.out⟩
          · have hq := prod_step hp0 hp1 (by omega : 1 ≤ z) (by omega)
            have i1 : IntKind.u64.wrap z = z := by rw [IntKind.wrap_u64]; omega
            have i2 : IntKind.u64.wrap (p * z) = p * z := by rw [IntKind.wrap_u64]; omega
            by_cases z3 : 1099511627776 < p * z
            · have HR := Lib.hid (HHk.out (by rw [HS.out, decide_eq_false (p := p * z ≤ 1099511627776) (by omega)]; simp))
              clear hW
              go_wp2
              go_ret
              rw [HR.out]
              exact ⟨rfl, HB1.out⟩
            · have HQ2 := Lib.hid (HQ.out (by rw [HS.out]; simp; omega))
              clear hW
              go_wp2
              go_roundw
              case rel => exact ⟨k + 1, by omega, by go_num, ⟨p * z, rfl, by omega, by omega, HE1⟩, HB1, HQ2⟩
              case measure => simp [intOf]; omega
      · have : k = ds.length := by omega
        subst this
        have HR := Lib.hid (HM.out HJ.out)
        clear HE
        go_wp2
        go_ret
        rw [HR.out]
        exact ⟨rfl, HB.out⟩
set_option maxHeartbeats 2000000 in
theorem viewsHold_any (w : World) (v : Value) (vs : List Int) (n : Nat) (h : Ints .u32 w v vs) (hn : n ≤ 6) (hw : ∀ x ∈ vs, 0 ≤ x ∧ x ≤ 4294967295) (hl : vs.length ≤ 9223372036854775807) :
    Calls Try.prog 34 #[v, .int .u32 (2 ^ n - 1)] w fun e w' => e = .returned (.bool (vieB (2 ^ n - 1) vs)) ∧ w = w' := by
  obtain ⟨a, cap, rfl, h1, h3⟩ := h
  rcases h3 with rfl | ⟨b, off, rfl, hlt, hc⟩
  · go_enter Try.func34, Try.ntmps34
    go_wp2
    refine wp_loop_rounds 1 ?_
    rw [rounds_succ]
    go_wp2
    go_ret
    exact ⟨rfl, rfl⟩
  · have HC := Lib.hid hc
    have HM := Lib.hid (@vie_good (2 ^ n - 1) vs)
    have HH := Lib.hid (fun k => @vie_bad (2 ^ n - 1) vs k)
    have HW := Lib.hid (fun k (hk : k < vs.length) => show 0 ≤ vs.getD k 0 ∧ vs.getD k 0 ≤ 4294967295 by
      have : vs.getD k 0 = vs[k] := by simp [List.getD, hk]
      rw [this]; exact hw _ (List.getElem_mem hk))
    have HA := Lib.hid (fun x h0 h1 => @andNot_full x n hn h0 h1)
    have HF := Lib.hid (full_wrap hn)
    have HV := Lib.hid (fun k => show vieAt (2 ^ n - 1) vs k = (decide (vs.getD k 0 < 2 ^ n - 1) && (decide (k = 0) || decide (vs.getD (k - 1) 0 < vs.getD k 0))) from rfl)
    generalize vieB (2 ^ n - 1) vs = r at *
    generalize hm : (2 : Int) ^ n - 1 = m at *
    have hm2 : (2 : Int) ^ n = m + 1 := by omega
    rw [hm2] at HA
    clear hc hw hm hm2 HF
    go_enter Try.func34, Try.ntmps34
    go_wp2
    go_loopw [9] (fun i wr => ∃ k : Nat, k ≤ vs.length ∧ i = .int .i64 k ∧ w = wr ∧ Hid (∀ j, j < k → vieAt m vs j = true)) (fun i _ => vs.length - (intOf i).toNat)
    case atStart => exact ⟨0, Nat.zero_le _, rfl, rfl, Lib.hid (fun j hj => by omega)⟩
    case round =>
      obtain ⟨k, hk, rfl, rfl, HJ⟩ := hrel
      by_cases hlk : k < vs.length
      · have hx := HC.out k hlk
        have hW := HW.out k hlk
        have hA := HA.out _ hW.1 hW.2
        have HHk := Lib.hid (fun q => HH.out k hlk q)
        have HQ := Lib.hid (fun q : vieAt m vs k = true => fun j (hj : j < k + 1) => if e : j = k then (e ▸ q : vieAt m vs j = true) else HJ.out j (by omega))
        have HVk := Lib.hid (HV.out k)
        generalize vieAt m vs k = t at *
        by_cases z1 : m ≤ vs.getD k 0
        · have HR := Lib.hid (HHk.out (by rw [HVk.out, decide_eq_false (p := vs.getD k 0 < m) (by omega)]; rfl))
          generalize vs.getD k 0 = x at *
          by_cases z2 : m + 1 ≤ x
          · rw [decide_eq_true z2] at hA
            go_wp2
            go_ret
            rw [HR.out]
            exact ⟨rfl, rfl⟩
          · rw [decide_eq_false z2] at hA
            obtain rfl : x = m := by omega
            go_wp2
            go_ret
            rw [HR.out]
            exact ⟨rfl, rfl⟩
        · rw [decide_eq_false (p := m + 1 ≤ vs.getD k 0) (by omega)] at hA
          have z4 : (vs.getD k 0 == m) = false := beq_eq_false_iff_ne.2 (by omega)
          by_cases k0 : k = 0
          · subst k0
            have HQ2 := Lib.hid (HQ.out (by rw [HVk.out, decide_eq_true (p := vs.getD 0 0 < m) (by omega)]; rfl))
            have hx : w.cell? ⟨b, off, none⟩ = some (.int .u32 (vs.getD 0 0)) := hx
            generalize vs.getD 0 0 = x at *
            go_wp2
            go_roundw
            case rel => exact ⟨0 + 1, by omega, by go_num, by trivial, HQ2⟩
            case measure => simp [intOf]; omega
          · have hy := HC.out (k - 1) (by omega)
            have i1 : ((k : Int) - 1) = ((k - 1 : Nat) : Int) := by omega
            have i2 : (0 : Int) < (k : Int) := by omega
            by_cases z3 : vs.getD k 0 ≤ vs.getD (k - 1) 0
            · have HR := Lib.hid (HHk.out (by rw [HVk.out, decide_eq_false k0, decide_eq_false (p := vs.getD (k - 1) 0 < vs.getD k 0) (by omega)]; simp))
              generalize vs.getD k 0 = x at *
              generalize vs.getD (k - 1) 0 = y at *
              go_wp2
              go_ret
              rw [HR.out]
              exact ⟨rfl, rfl⟩
            · have HQ2 := Lib.hid (HQ.out (by rw [HVk.out, decide_eq_true (p := vs.getD k 0 < m) (by omega), decide_eq_true (p := vs.getD (k - 1) 0 < vs.getD k 0) (by omega)]; simp))
              generalize vs.getD k 0 = x at *
              generalize vs.getD (k - 1) 0 = y at *
              go_wp2
              go_roundw
              case rel => exact ⟨k + 1, by omega, by go_num, by trivial, HQ2⟩
              case measure => simp [intOf]; omega
      · have : k = vs.length := by omega
        subst this
        have HR := Lib.hid (HM.out HJ.out)
        go_wp2
        go_ret
        rw [HR.out]
        exact ⟨rfl, rfl⟩
end Go.Proofs.Ytdlebcjkokabjaa
