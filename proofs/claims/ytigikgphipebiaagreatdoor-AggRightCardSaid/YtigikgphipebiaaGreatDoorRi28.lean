/- Contracts that the law leans on, pruned and merged: Schh Aggu Aggy. -/
import Derived.BigQuiet
import Derived.Deep.QuietTactic
import Derived.Test.YtigikgphipebiaaGreatDoorRi18
import Derived.Test.YtigikgphipebiaaGreatDoorRi25
import Derived.Test.YtigikgphipebiaaGreatDoorRi27
/- Layer 11: the reference's Full, Views, Masks, Keys, names. -/
namespace Go.Proofs.YtigikgphipebiaaGreatDoor
set_option maxRecDepth 100000
open Go.RowKit
set_option linter.unusedVariables false
theorem check_cnt {S : Sc} (h : checkL S = 0) : cntB S = true ∧ sizB S.ds = true ∧ vieB (fullL S.ds) S.vs = true := by
  unfold checkL at h
  split at h
  · cases h
  · rename_i h1
    split at h
    · cases h
    · split at h
      · cases h
      · split at h
        · cases h
        · rename_i h2
          split at h
          · cases h
          · rename_i h3
            exact ⟨by simpa using h1, by simpa using h2, by simpa using h3⟩
/-- The number of keys of a set: the product of the Sizes whose bits it has. -/
def keysL (ds : List (ByteArray × Int)) (m : Int) : Nat → Int
  | 0 => 1
  | k + 1 => if m / 2 ^ k % 2 = 1 then keysL ds m k * dz ds k else keysL ds m k
theorem prod_pos {ds : List (ByteArray × Int)} (h : sizB ds = true) : ∀ k, k ≤ ds.length → 1 ≤ prodL (ds.take k) ∧ prodL (ds.take k) ≤ 1099511627776
  | 0, _ => by simp [prodL]
  | k + 1, hk => by
    have i := prod_pos h k (by omega)
    have s := siz_get h (k := k) (by omega)
    refine ⟨?_, s.2.2⟩
    rw [prod_next (by omega)]
    have := Int.mul_le_mul i.1 s.1 (by omega) (by omega)
    omega
theorem keys_range {ds : List (ByteArray × Int)} (m : Int) (h : sizB ds = true) : ∀ k, k ≤ ds.length → 1 ≤ keysL ds m k ∧ keysL ds m k ≤ prodL (ds.take k)
  | 0, _ => by simp [prodL, keysL]
  | k + 1, hk => by
    have i := keys_range m h k (by omega)
    have s := siz_get h (k := k) (by omega)
    have p := prod_pos h k (by omega)
    rw [prod_next (by omega)]
    unfold keysL
    have e1 := Int.mul_le_mul i.1 s.1 (by omega) (by omega)
    have e2 := Int.mul_le_mul_of_nonneg_right i.2 (show 0 ≤ dz ds k by omega)
    have e3 := Int.mul_le_mul (Int.le_refl (prodL (ds.take k))) s.1 (by omega) (by omega)
    split
    · constructor <;> omega
    · constructor <;> omega
theorem set_one {k : IntKind} {w : World} {x : Int} {T : TypeId} {N : Nat} (hN : w.heap.size = N) : Ints k (w.alloc (.cells #[.int k x] T)) (.slice (some ⟨N, 0, none⟩) 1 1) [x] := by
  subst hN
  refine ⟨_, _, rfl, Nat.le_refl _, .inr ⟨w.heap.size, 0, rfl, by simp, fun i hi => ?_⟩⟩
  have h0 : i = 0 := by simp at hi; omega
  subst h0
  simp [go_sem]
theorem and_one32 {x : Int} (h0 : 0 ≤ x) (h1 : x ≤ 4294967295) : (bits .and .u32 x 1 == 1) = decide (x % 2 = 1) := by
  rw [u32_and x 1 h0 (by omega) (by decide) (by decide)]
  have e : x.toNat &&& (1 : Int).toNat = x.toNat % 2 := Nat.and_one_is_mod _
  rw [e, Bool.eq_iff_iff]
  simp
  omega
theorem div_range {m : Int} (m0 : 0 ≤ m) (m1 : m ≤ 4294967295) (k : Nat) : 0 ≤ m / 2 ^ k ∧ m / 2 ^ k ≤ 4294967295 := by
  have hp : (0 : Int) < 2 ^ k := Int.pow_pos (by decide)
  refine ⟨Int.ediv_nonneg m0 (by omega), ?_⟩
  have := Int.ediv_le_self (b := 2 ^ k) m0
  omega
set_option maxHeartbeats 4000000 in
theorem keys_any (w : World) (D I M V : Value) (S : Sc) (m : Int) (h : Sch4 w D I M V S) (hw : SWf S) (m0 : 0 ≤ m) (m1 : m ≤ 4294967295) :
    Calls Tryz.prog 47 #[SchV D I M V, .int .u32 m] w fun e w' => e = .returned (.tuple #[.int .u64 (if checkL S = 0 ∧ m ≤ fullL S.ds then keysL S.ds m S.ds.length else 0), .bool (decide (checkL S = 0 ∧ m ≤ fullL S.ds))]) ∧ Below w.heap.size w w' := by
  have HB0 := Lib.hid (below_one w (SchO D I M V))
  have hx0 := box_new w D I M V
  have HC := Lib.hid (fun w1 (hb : Below w.heap.size w w1) => check_any w1 D I M V S (h.below hb) hw)
  have HF := Lib.hid (fun w1 (hb : Below w.heap.size w w1) (hn : S.ds.length ≤ 6) => base_any w1 D I M V S (h.below hb) hn)
  have HX := Lib.hid hx0
  have HH := Lib.hid h
  obtain ⟨⟨a, c, rfl⟩, ⟨a2, c2, rfl⟩, ⟨a3, c3, rfl⟩, a4, c4, rfl⟩ := h.slices
  clear h hw hx0
  by_cases hc : checkL S = 0
  · rw [hc] at HC
    have hck := check_cnt hc
    have hn := (cnt_iff.1 hck.1).2.1
    have hA := andNot_full hn m0 m1
    have he : (2 : Int) ^ S.ds.length - 1 = fullL S.ds := rfl
    have he2 : (2 : Int) ^ S.ds.length = fullL S.ds + 1 := by omega
    rw [he, he2] at hA
    have hHH := HH.out.d
    obtain ⟨a', cap', e', h1, h2, h3⟩ := hHH
    obtain ⟨rfl, rfl⟩ : a = a' ∧ c = cap' := by injection e' with e1 e2 e3; exact ⟨e1, e3⟩
    have hpos := (cnt_iff.1 hck.1).1
    rcases h3 with h3 | ⟨b, off, rfl, hlt, hcell⟩
    · rw [h3] at hpos; simp at hpos
    have HCE := Lib.hid hcell
    have HKn := Lib.hid (fun k => show keysL S.ds m (k + 1) = if m / 2 ^ k % 2 = 1 then keysL S.ds m k * dz S.ds k else keysL S.ds m k from rfl)
    have HR := Lib.hid (fun k hk => And.intro (keys_range m hck.2.1 k hk) (prod_pos hck.2.1 k hk))
    have HZ := Lib.hid (fun k (hk : k < S.ds.length) => siz_get hck.2.1 hk)
    clear hcell e' he he2
    by_cases hm : m ≤ fullL S.ds
    · have e1 : checkL S = 0 ∧ m ≤ fullL S.ds := ⟨hc, hm⟩
      rw [if_pos e1, decide_eq_true e1]
      rw [decide_eq_false (by omega)] at hA
      generalize fullL S.ds = fu at *
      clear hm e1 hc hck
      go_enter Tryz.func47, Tryz.ntmps47
      go_wp2_with fail
      refine (HC.out _ HB0.out).mono ?_; rintro e w1 ⟨rfl, hb⟩
      have HB1 := Lib.hid (below_then HB0.out hb)
      obtain ⟨x0, x1, x2, x3⟩ := (HX.out.below hb).reads
      clear hb
      go_wp2_with fail
      refine (HF.out _ HB1.out hn).mono ?_; rintro e w2 ⟨rfl, hb⟩
      have HB2 := Lib.hid (below_then HB1.out hb)
      obtain ⟨y0, y1, y2, y3⟩ := quad_hold hb ⟨x0, x1, x2, x3⟩
      clear hb x0 x1 x2 x3
      go_wp2_with fail
      clear hA
      go_loopw [6, 22] (fun pv i wr => ∃ k : Nat, k ≤ S.ds.length ∧ i = .int .i64 k ∧ (∃ p : Int, pv = .int .u64 p ∧ 1 ≤ p ∧ p ≤ 1099511627776 ∧ Hid (p = keysL S.ds m k)) ∧ Hid (Below w.heap.size w wr)) (fun _ i _ => S.ds.length - (intOf i).toNat)
      case atStart => exact ⟨0, Nat.zero_le _, rfl, ⟨1, rfl, by decide, by decide, Lib.hid rfl⟩, HB2⟩
      case round =>
        obtain ⟨k, hk, rfl, ⟨p, rfl, hp0, hp1, HE⟩, HB⟩ := hrel
        by_cases hlk : k < S.ds.length
        · obtain ⟨c0, c1⟩ := HCE.out k hlk
          have c0 : wr.cell? ⟨b, off + k * 2, none⟩ = _ := (HB.out.cell (p := ⟨b, off + k * 2, none⟩) hlt).trans c0
          have c1 : wr.cell? ⟨b, off + k * 2 + 1, none⟩ = _ := (HB.out.cell (p := ⟨b, off + k * 2 + 1, none⟩) hlt).trans c1
          have HKk := Lib.hid (HKn.out k)
          have hz := HZ.out k hlk
          have hr := HR.out (k + 1) (by omega)
          have hBs := HB.out.size
          have HB1' := Lib.hid (HB.out.alloc hBs (.cells #[.string (dn S.ds k), .int .i64 (dz S.ds k)] 73))
          have hq := prod_step hp0 hp1 hz.1 hz.2.1
          have HRk := Lib.hid (show 1 ≤ keysL S.ds m (k + 1) ∧ keysL S.ds m (k + 1) ≤ 1099511627776 by omega)
          generalize dn S.ds k = x at *
          generalize dz S.ds k = z at *
          have i1 : IntKind.u64.wrap z = z := by rw [IntKind.wrap_u64]; omega
          have i2 : IntKind.u64.wrap (p * z) = p * z := by rw [IntKind.wrap_u64]; omega
          have hb1 := and_one32 (div_range m0 m1 k).1 (div_range m0 m1 k).2
          rw [← HE.out] at HKk
          have HE3 := Lib.hid hq
          clear hr hz hq
          by_cases hbit : m / 2 ^ k % 2 = 1
          · rw [decide_eq_true hbit] at hb1
            rw [if_pos hbit] at HKk
            clear hbit
            go_wp2_with fail
            go_roundw
            case rel => exact ⟨k + 1, by omega, by go_num, ⟨p * z, rfl, HE3.out.1, by rw [← HKk.out]; exact HRk.out.2, Lib.hid HKk.out.symm⟩, HB1'⟩
            case measure => simp [intOf]; omega
          · rw [decide_eq_false hbit] at hb1
            rw [if_neg hbit] at HKk
            clear hbit
            go_wp2_with fail
            go_roundw
            case rel => exact ⟨k + 1, by omega, by go_num, ⟨p, rfl, hp0, hp1, Lib.hid HKk.out.symm⟩, HB1'⟩
            case measure => simp [intOf]; omega
        · have : k = S.ds.length := by omega
          subst this
          have HE2 := Lib.hid HE.out
          clear HE
          go_wp2_with fail
          exact bodyPost_ret (v := .tuple #[.int .u64 p, .bool true]) (by simp [results, Tryz.results47, go_sem]) rfl ⟨by rw [HE2.out], HB.out⟩
    · have e1 : ¬ (checkL S = 0 ∧ m ≤ fullL S.ds) := fun h => hm h.2
      rw [if_neg e1, decide_eq_false e1]
      rw [decide_eq_true (by omega)] at hA
      generalize fullL S.ds = fu at *
      clear hm e1 hc hck
      go_enter Tryz.func47, Tryz.ntmps47
      go_wp2_with fail
      refine (HC.out _ HB0.out).mono ?_; rintro e w1 ⟨rfl, hb⟩
      have HB1 := Lib.hid (below_then HB0.out hb)
      obtain ⟨x0, x1, x2, x3⟩ := (HX.out.below hb).reads
      clear hb
      go_wp2_with fail
      refine (HF.out _ HB1.out hn).mono ?_; rintro e w2 ⟨rfl, hb⟩
      have HB2 := Lib.hid (below_then HB1.out hb)
      clear hb
      go_wp2_with fail
      exact bodyPost_ret (v := .tuple #[.int .u64 0, .bool false]) (by simp [results, Tryz.results47, go_sem]) rfl ⟨rfl, HB2.out⟩
  · have e1 : ¬ (checkL S = 0 ∧ m ≤ fullL S.ds) := fun h => hc h.1
    rw [if_neg e1, decide_eq_false e1]
    have hc2 : ((checkL S : Int) != 0) = true := by simp; omega
    generalize (checkL S : Int) = ck at *
    clear hc e1
    go_enter Tryz.func47, Tryz.ntmps47
    go_wp2_with fail
    refine (HC.out _ HB0.out).mono ?_; rintro e w1 ⟨rfl, hb⟩
    have HB1 := Lib.hid (below_then HB0.out hb)
    clear hb
    go_wp2_with fail
    exact bodyPost_ret (v := .tuple #[.int .u64 0, .bool false]) (by simp [results, Tryz.results47, go_sem]) rfl ⟨rfl, HB1.out⟩
set_option maxRecDepth 100000
open Go.RowKit
set_option linter.unusedVariables false
theorem pow_succ_int (k : Nat) : (2 : Int) ^ (k + 1) = 2 * 2 ^ k := by rw [Int.pow_succ, Int.mul_comm]
theorem spow_bound {k : Nat} (h : k ≤ 31) : (1 : Int) ≤ 2 ^ k ∧ (2 : Int) ^ k ≤ 2147483648 := by
  have h1 : (2 : Nat) ^ k ≤ 2 ^ 31 := Nat.pow_le_pow_right (by decide) h
  have h2 : 0 < (2 : Nat) ^ k := Nat.pow_pos (by decide)
  have h3 : ((2 ^ k : Nat) : Int) = 2 ^ k := by rw [Int.natCast_pow]; rfl
  rw [← h3]
  omega
set_option maxHeartbeats 1000000 in
theorem two_any (w : World) (n : Nat) (hn : n ≤ 31) :
    Calls Tryz.prog 39 #[.int .i64 n] w fun e w' => e = .returned (.int .u32 (2 ^ n)) ∧ w = w' := by
  have HP := Lib.hid (fun k (h : k ≤ 31) => @spow_bound k h)
  go_enter Tryz.func39, Tryz.ntmps39
  go_wp2
  go_loopw [3, 4] (fun x i wr => ∃ k : Nat, k ≤ n ∧ i = .int .i64 k ∧ w = wr ∧ ∃ y : Int, x = .int .u32 y ∧ 1 ≤ y ∧ y ≤ 2147483648 ∧ Hid (y = 2 ^ k)) (fun _ i _ => n - (intOf i).toNat)
  case atStart => exact ⟨0, Nat.zero_le _, rfl, rfl, 1, rfl, by decide, by decide, Lib.hid rfl⟩
  case round =>
    obtain ⟨k, hk, rfl, rfl, y, rfl, y0, y1, HY⟩ := hrel
    by_cases hlk : k < n
    · have hp := HP.out k (by omega)
      have hp2 := HP.out (k + 1) (by omega)
      rw [pow_succ_int, ← HY.out] at hp2
      have HY2 := Lib.hid (show 2 * y = 2 ^ (k + 1) by rw [pow_succ_int, ← HY.out])
      have i1 : IntKind.u32.wrap (2 * y) = 2 * y := by rw [IntKind.wrap_u32]; omega
      go_wp2
      go_roundw
      case rel => exact ⟨k + 1, by omega, by go_num, by trivial, 2 * y, rfl, by omega, by omega, HY2⟩
      case measure => simp [intOf]; omega
    · have : k = n := by omega
      subst this
      have HE := Lib.hid HY.out
      clear HY
      go_wp2
      go_ret
      rw [HE.out]
      exact ⟨rfl, rfl⟩
theorem in_any (w : World) (m : Int) (n : Nat) (hn : n ≤ 31) (m0 : 0 ≤ m) (m1 : m ≤ 4294967295) :
    Calls Tryz.prog 40 #[.int .u32 m, .int .i64 n] w fun e w' => e = .returned (.bool (decide (m / 2 ^ n % 2 = 1))) ∧ w = w' := by
  have HT := Lib.hid (two_any w n hn)
  have hp := spow_bound hn
  have hd := div_range m0 m1 n
  have hr : (m / 2 ^ n).tmod 2 = m / 2 ^ n % 2 := Int.tmod_eq_emod_of_nonneg hd.1
  have hq : m.tdiv (2 ^ n) = m / 2 ^ n := Int.tdiv_eq_ediv_of_nonneg m0
  generalize (2 : Int) ^ n = p at *
  go_enter Tryz.func40, Tryz.ntmps40
  go_wp2_with fail
  refine (HT.out).mono ?_; rintro e w1 ⟨rfl, rfl⟩
  go_wp2_with fail
  go_ret
  exact ⟨rfl, rfl⟩
theorem bit_full {n i : Nat} (hn : n ≤ 6) (hi : i ≤ 31) : ((2 : Int) ^ n - 1) / 2 ^ i % 2 = 1 ↔ i < n := by
  have key : ∀ n, n < 7 → ∀ i, i < 32 → (((2 : Int) ^ n - 1) / 2 ^ i % 2 = 1 ↔ i < n) := by decide
  exact key n (by omega) i (by omega)
theorem below_pow {m : Int} {n : Nat} (m0 : 0 ≤ m) (m1 : m ≤ 4294967295) (h : ∀ i, i < 32 → m / 2 ^ i % 2 = 1 → i < n) : m < 2 ^ n := by
  obtain ⟨M, rfl⟩ : ∃ M : Nat, m = M := ⟨m.toNat, by omega⟩
  have hlt : M < 2 ^ n := by
    refine Nat.lt_pow_two_of_testBit M fun i hi => ?_
    by_cases h32 : i < 32
    · by_cases hb : M.testBit i = true
      · exfalso
        have h2 : (M : Int) / 2 ^ i % 2 = 1 := by
          rw [Nat.testBit_eq_decide_div_mod_eq] at hb
          have := of_decide_eq_true hb
          have e : ((2 ^ i : Nat) : Int) = 2 ^ i := by rw [Int.natCast_pow]; rfl
          rw [← e]
          omega
        have := h i h32 h2
        omega
      · simpa using hb
    · exact Nat.testBit_lt_two_pow (Nat.lt_of_lt_of_le (show M < 2 ^ 32 by omega) (Nat.pow_le_pow_right (by decide) (by omega)))
  have e : ((2 ^ n : Nat) : Int) = 2 ^ n := by rw [Int.natCast_pow]; rfl
  rw [← e]; omega
theorem pow_high {m : Int} {n i : Nat} (m0 : 0 ≤ m) (hm : m < 2 ^ n) (h : n ≤ i) : m / 2 ^ i % 2 = 0 := by
  have h1 : (2 : Nat) ^ n ≤ 2 ^ i := Nat.pow_le_pow_right (by decide) h
  have h2 : ((2 ^ n : Nat) : Int) = 2 ^ n := by rw [Int.natCast_pow]; rfl
  have h3 : ((2 ^ i : Nat) : Int) = 2 ^ i := by rw [Int.natCast_pow]; rfl
  have hp : (2 : Int) ^ n ≤ 2 ^ i := by rw [← h2, ← h3]; omega
  rw [Int.ediv_eq_zero_of_lt m0 (by omega)]
  rfl
set_option maxHeartbeats 2000000 in
theorem ssub_any (w : World) (m : Int) (n : Nat) (hn : n ≤ 6) (m0 : 0 ≤ m) (m1 : m ≤ 4294967295) :
    Calls Tryz.prog 14 #[.int .u32 m, .int .u32 (2 ^ n - 1)] w fun e w' => e = .returned (.bool (decide (m < 2 ^ n))) ∧ w = w' := by
  have hf := full_wrap hn
  have HA := Lib.hid (fun i (hi : i ≤ 31) => in_any w m i hi m0 m1)
  have HF := Lib.hid (fun i (hi : i ≤ 31) => in_any w (2 ^ n - 1) i hi hf.2.1 (by omega))
  have HB := Lib.hid (fun i (hi : i ≤ 31) => bit_full hn hi)
  have HP := Lib.hid (fun h => @below_pow m n m0 m1 h)
  have HH := Lib.hid (fun i hm h => @pow_high m n i m0 hm h)
  generalize (2 : Int) ^ n - 1 = f at *
  generalize hr : decide (m < 2 ^ n) = r
  have HR := Lib.hid hr
  clear hr hf
  go_enter Tryz.func14, Tryz.ntmps14
  go_wp2
  go_loopw [5] (fun i wr => ∃ k : Nat, k ≤ 32 ∧ i = .int .i64 k ∧ w = wr ∧ Hid (∀ j, j < k → m / 2 ^ j % 2 = 1 → j < n)) (fun i _ => 32 - (intOf i).toNat)
  case atStart => exact ⟨0, Nat.zero_le _, rfl, rfl, Lib.hid (fun j hj => by omega)⟩
  case round =>
    obtain ⟨k, hk, rfl, rfl, HJ⟩ := hrel
    by_cases hlk : k < 32
    · have hlk' : (k : Int) < 32 := by omega
      have HAk := Lib.hid (HA.out k (by omega))
      have HFk := Lib.hid (HF.out k (by omega))
      have HBk := Lib.hid (HB.out k (by omega))
      by_cases h1 : m / 2 ^ k % 2 = 1
      · rw [decide_eq_true h1] at HAk
        by_cases h2 : k < n
        · rw [decide_eq_true (HBk.out.2 h2)] at HFk
          have HJ2 := Lib.hid (show ∀ j, j < k + 1 → m / 2 ^ j % 2 = 1 → j < n from fun j hj hb => if e : j = k then e ▸ h2 else HJ.out j (by omega) hb)
          clear h1 h2 HBk
          go_wp2_with fail
          refine (HAk.out).mono ?_; rintro e w1 ⟨rfl, rfl⟩
          go_wp2_with fail
          refine (HFk.out).mono ?_; rintro e w1 ⟨rfl, rfl⟩
          go_wp2_with fail
          go_roundw
          case rel => exact ⟨k + 1, by omega, by go_num, by trivial, HJ2⟩
          case measure => simp [intOf]; omega
        · rw [decide_eq_false (fun h => h2 (HBk.out.1 h))] at HFk
          have HE := Lib.hid (show r = false by
            rw [← HR.out]
            refine decide_eq_false fun hm => ?_
            have := HH.out k hm (by omega)
            omega)
          clear h1 h2 HBk
          go_wp2_with fail
          refine (HAk.out).mono ?_; rintro e w1 ⟨rfl, rfl⟩
          go_wp2_with fail
          refine (HFk.out).mono ?_; rintro e w1 ⟨rfl, rfl⟩
          go_wp2_with fail
          go_ret
          rw [HE.out]
          exact ⟨rfl, rfl⟩
      · rw [decide_eq_false h1] at HAk
        have HJ2 := Lib.hid (show ∀ j, j < k + 1 → m / 2 ^ j % 2 = 1 → j < n from fun j hj hb => if e : j = k then absurd (e ▸ hb) h1 else HJ.out j (by omega) hb)
        clear h1 HBk
        go_wp2_with fail
        refine (HAk.out).mono ?_; rintro e w1 ⟨rfl, rfl⟩
        go_wp2_with fail
        go_roundw
        case rel => exact ⟨k + 1, by omega, by go_num, by trivial, HJ2⟩
        case measure => simp [intOf]; omega
    · have : k = 32 := by omega
      subst this
      have HE := Lib.hid (show r = true by rw [← HR.out]; exact decide_eq_true (HP.out HJ.out))
      go_wp2_with fail
      go_ret
      rw [HE.out]
      exact ⟨rfl, rfl⟩
set_option maxRecDepth 100000
open Go.RowKit
set_option linter.unusedVariables false
theorem rfull_any (w : World) (D I M V : Value) (S : Sc) (h : Sch4 w D I M V S) (hn : S.ds.length ≤ 6) :
    Calls Tryz.prog 15 #[SchV D I M V] w fun e w' => e = .returned (.int .u32 (fullL S.ds)) ∧ Below w.heap.size w w' := by
  obtain ⟨⟨a, c, rfl⟩, -, -, -⟩ := h.slices
  have HB := Lib.hid (below_one w (SchO (.slice a S.ds.length c) I M V))
  have HT := Lib.hid (fun w => two_any w S.ds.length (by omega))
  have hf := full_wrap hn
  have hf0 : IntKind.u32.wrap ((2 : Int) ^ S.ds.length - 1) = 2 ^ S.ds.length - 1 := by rw [IntKind.wrap_u32]; exact hf.1
  have HE := Lib.hid (show fullL S.ds = 2 ^ S.ds.length - 1 from rfl)
  clear h hf
  generalize (2 : Int) ^ S.ds.length = p at *
  rw [HE.out]
  go_enter Tryz.func15, Tryz.ntmps15
  go_wp2_with fail
  refine (HT.out _).mono ?_; rintro e w1 ⟨rfl, rfl⟩
  go_wp2_with fail
  go_ret
  exact ⟨rfl, HB.out⟩
end Go.Proofs.YtigikgphipebiaaGreatDoor
/- Layer 14: the program's Right. -/
namespace Go.Proofs.YtigikgphipebiaaGreatDoor
set_option maxRecDepth 100000
open Go.RowKit
set_option linter.unusedVariables false
def allW (l : List Wh) : Bool := (List.range l.length).all fun k => rightW (wg l k)
def allR (l : List Re) : Bool := (List.range l.length).all fun k => rightR (rg l k)
theorem allW_yes {l : List Wh} (h : ∀ k, k < l.length → rightW (wg l k) = true) : allW l = true := List.all_eq_true.2 fun x hx => h x (by simpa using hx)
theorem allR_yes {l : List Re} (h : ∀ k, k < l.length → rightR (rg l k) = true) : allR l = true := List.all_eq_true.2 fun x hx => h x (by simpa using hx)
theorem allW_no {l : List Wh} {k : Nat} (hk : k < l.length) (h : rightW (wg l k) = false) : allW l = false := List.all_eq_false.2 ⟨k, by simpa using hk, by simp [h]⟩
theorem allR_no {l : List Re} {k : Nat} (hk : k < l.length) (h : rightR (rg l k) = false) : allR l = false := List.all_eq_false.2 ⟨k, by simpa using hk, by simp [h]⟩
theorem closW_any (w : World) (x0 x1 x3 x4 : Int) (lx : List Int) (p : Option Addr) (c : Nat) (hq : Ints .u32 w (.slice p lx.length c) lx) (hx : WhW ⟨x0, x1, lx, x3, x4⟩) :
    Calls Tryz.prog 111 #[.agg #[.int .i64 x0, .int .i64 x1, .slice p lx.length c, .int .i64 x3, .int .i64 x4]] w fun e w' => e = .returned (.bool (!rightW ⟨x0, x1, lx, x3, x4⟩)) ∧ Below w.heap.size w w' := by
  have HV := Lib.hid (fun w1 (hb : Below w.heap.size w w1) => vwhole_raw w1 x0 x1 x3 x4 lx p c (hq.below hb) hx)
  have HX := Lib.hid (show (w.alloc (.cells #[.int .i64 x0, .int .i64 x1, .slice p lx.length c, .int .i64 x3, .int .i64 x4] 75)).heap[w.heap.size]? = some (.cells #[.int .i64 x0, .int .i64 x1, .slice p lx.length c, .int .i64 x3, .int .i64 x4] 75 (0, 0)) from heap_alloc_new w _)
  have HB := Lib.hid (below_one w (.cells #[.int .i64 x0, .int .i64 x1, .slice p lx.length c, .int .i64 x3, .int .i64 x4] 75))
  generalize rightW ⟨x0, x1, lx, x3, x4⟩ = R at *
  clear hq hx
  go_enter Tryz.func111, Tryz.ntmps111
  go_upto_region 1 with fail
  generalize w.alloc (.cells #[.int .i64 x0, .int .i64 x1, .slice p lx.length c, .int .i64 x3, .int .i64 x4] 75) = W at *
  obtain ⟨f0, f1, f2, f3, f4⟩ := row5 HX.out
  go_wp2_with fail
  refine (HV.out _ HB.out).mono ?_; rintro e w1 ⟨rfl, hb1⟩
  have HB1 := Lib.hid (below_then HB.out hb1)
  clear f0 f1 f2 f3 f4 hb1
  go_wp2_with fail
  go_ret
  exact ⟨rfl, HB1.out⟩
set_option maxHeartbeats 4000000 in
theorem idxW_any (w : World) (u : Value) (l : List Wh) (hu : Wholes w u l) (hw : ∀ x ∈ l, WhW x) :
    Calls Tryz.prog 170 #[u, .func (.func 111) #[] #[]] w fun e w' => (∃ r : Int, e = .returned (.int .i64 r) ∧ decide (0 ≤ r) = !allW l) ∧ Below w.heap.size w w' := by
  have HU := Lib.hid hu
  have HW := Lib.hid (fun k (hk : k < l.length) => show WhW (wg l k) by rw [wg_get hk]; exact hw _ (List.getElem_mem _))
  have HY := Lib.hid (@allW_yes l)
  have HN := Lib.hid (fun k (hk : k < l.length) (h : rightW (wg l k) = false) => allW_no hk h)
  obtain ⟨a, cap, rfl, -, hm, -⟩ := hu
  generalize allW l = R at *
  clear hw
  go_enter Tryz.func170, Tryz.ntmps170
  go_wp2_with fail
  go_loopw [8] (fun iv wr => ∃ k : Nat, k ≤ l.length ∧ iv = .int .i64 k ∧ Hid (Below w.heap.size w wr ∧ ∀ j, j < k → rightW (wg l j) = true)) (fun iv _ => l.length - (intOf iv).toNat)
  case atStart => exact ⟨0, Nat.zero_le _, rfl, Lib.hid ⟨Below.refl _ _, fun j hj => by omega⟩⟩
  case round =>
    obtain ⟨k, hk, rfl, HS⟩ := hrel
    by_cases hlk : k < l.length
    · have hlk' : (k : Int) < (l.length : Int) := by omega
      have hle : Hid (k + 1 ≤ l.length) := Lib.hid (by omega)
      obtain ⟨b, off, q, rfl, hq⟩ := (HU.out.below HS.out.1).at hlk
      obtain ⟨f0, f1, f2, f3, f4, f9⟩ := hq
      have HWk := HW.out k hlk
      have HNk := Lib.hid (fun h => HN.out k hlk h)
      have HSn := Lib.hid (fun (h : rightW (wg l k) = true) j (hj : j < k + 1) => show rightW (wg l j) = true from if e : j = k then e ▸ h else HS.out.2 j (by omega))
      have HBk := Lib.hid HS.out.1
      generalize wg l k = x at *
      obtain ⟨x0, x1, lx, x3, x4⟩ := x
      have hf := f9
      obtain ⟨p, c, rfl, -, -⟩ := f9
      have HC := Lib.hid (closW_any wr x0 x1 x3 x4 lx p c hf HWk)
      dsimp only at f0 f1 f2 f3 f4
      clear hf HWk HS
      generalize rightW ⟨x0, x1, lx, x3, x4⟩ = T at *
      go_wp2_with fail
      refine HC.out.mono ?_; rintro e w1 ⟨rfl, hb1⟩
      have HB1 := Lib.hid (below_then HBk.out hb1)
      clear hb1 HC f0 f1 f2 f3 f4
      cases T with
      | true =>
        have HJ := Lib.hid (HSn.out rfl)
        go_wp2_with fail
        go_roundw
        case rel => exact ⟨k + 1, hle.out, by go_num, Lib.hid ⟨HB1.out, HJ.out⟩⟩
        case measure => simp [intOf]; omega
      | false =>
        have hR := HNk.out rfl
        subst hR
        go_wp2_with fail
        go_ret
        exact ⟨⟨_, rfl, decide_eq_true (by omega)⟩, HB1.out⟩
    · have : k = l.length := by omega
      subst this
      have hR := HY.out HS.out.2
      subst hR
      go_wp2_with fail
      go_ret
      exact ⟨⟨-1, rfl, by decide⟩, HS.out.1⟩
theorem conW_any (w : World) (u : Value) (l : List Wh) (hu : Wholes w u l) (hw : ∀ x ∈ l, WhW x) :
    Calls Tryz.prog 110 #[u, .func (.func 111) #[] #[]] w fun e w' => e = .returned (.bool (!allW l)) ∧ Below w.heap.size w w' := by
  have HI := Lib.hid (idxW_any w u l hu hw)
  obtain ⟨a, cap, rfl, -, hm, -⟩ := hu
  generalize allW l = R at *
  clear hw
  go_enter Tryz.func110, Tryz.ntmps110
  go_wp2_with fail
  refine HI.out.mono ?_; rintro e w1 ⟨⟨r, rfl, hr⟩, hb⟩
  have HB := Lib.hid hb
  clear hb HI
  go_wp2_with fail
  go_ret
  exact ⟨by first | rfl | rw [← hr] | (rw [← hr]; rfl), HB.out⟩
theorem closR_any (w : World) (x1 x2 : Nat) (lx : List Int) (p : Option Addr) (c : Nat) (hq : Ints .u8 w (.slice p lx.length c) lx) (hx : ReW ⟨lx, x1, x2⟩) :
    Calls Tryz.prog 114 #[.agg #[.slice p lx.length c, .float .f64 x1, .float .f64 x2]] w fun e w' => e = .returned (.bool (!rightR ⟨lx, x1, x2⟩)) ∧ Below w.heap.size w w' := by
  have HV := Lib.hid (fun w1 (hb : Below w.heap.size w w1) => vreal_raw w1 x1 x2 lx p c (hq.below hb) hx)
  have HX := Lib.hid (show (w.alloc (.cells #[.slice p lx.length c, .float .f64 x1, .float .f64 x2] 63)).heap[w.heap.size]? = some (.cells #[.slice p lx.length c, .float .f64 x1, .float .f64 x2] 63 (0, 0)) from heap_alloc_new w _)
  have HB := Lib.hid (below_one w (.cells #[.slice p lx.length c, .float .f64 x1, .float .f64 x2] 63))
  generalize rightR ⟨lx, x1, x2⟩ = R at *
  clear hq hx
  go_enter Tryz.func114, Tryz.ntmps114
  go_upto_region 1 with fail
  generalize w.alloc (.cells #[.slice p lx.length c, .float .f64 x1, .float .f64 x2] 63) = W at *
  obtain ⟨f0, f1, f2⟩ := row3 HX.out
  go_wp2_with fail
  refine (HV.out _ HB.out).mono ?_; rintro e w1 ⟨rfl, hb1⟩
  have HB1 := Lib.hid (below_then HB.out hb1)
  clear f0 f1 f2 hb1
  go_wp2_with fail
  go_ret
  exact ⟨rfl, HB1.out⟩
set_option maxHeartbeats 4000000 in
theorem idxR_any (w : World) (u : Value) (l : List Re) (hu : Reals w u l) (hw : ∀ x ∈ l, ReW x) :
    Calls Tryz.prog 172 #[u, .func (.func 114) #[] #[]] w fun e w' => (∃ r : Int, e = .returned (.int .i64 r) ∧ decide (0 ≤ r) = !allR l) ∧ Below w.heap.size w w' := by
  have HU := Lib.hid hu
  have HW := Lib.hid (fun k (hk : k < l.length) => show ReW (rg l k) by rw [rg_get hk]; exact hw _ (List.getElem_mem _))
  have HY := Lib.hid (@allR_yes l)
  have HN := Lib.hid (fun k (hk : k < l.length) (h : rightR (rg l k) = false) => allR_no hk h)
  obtain ⟨a, cap, rfl, -, hm, -⟩ := hu
  generalize allR l = R at *
  clear hw
  go_enter Tryz.func172, Tryz.ntmps172
  go_wp2_with fail
  go_loopw [8] (fun iv wr => ∃ k : Nat, k ≤ l.length ∧ iv = .int .i64 k ∧ Hid (Below w.heap.size w wr ∧ ∀ j, j < k → rightR (rg l j) = true)) (fun iv _ => l.length - (intOf iv).toNat)
  case atStart => exact ⟨0, Nat.zero_le _, rfl, Lib.hid ⟨Below.refl _ _, fun j hj => by omega⟩⟩
  case round =>
    obtain ⟨k, hk, rfl, HS⟩ := hrel
    by_cases hlk : k < l.length
    · have hlk' : (k : Int) < (l.length : Int) := by omega
      have hle : Hid (k + 1 ≤ l.length) := Lib.hid (by omega)
      obtain ⟨b, off, q, rfl, hq⟩ := (HU.out.below HS.out.1).at hlk
      obtain ⟨f0, f1, f2, f9⟩ := hq
      have HWk := HW.out k hlk
      have HNk := Lib.hid (fun h => HN.out k hlk h)
      have HSn := Lib.hid (fun (h : rightR (rg l k) = true) j (hj : j < k + 1) => show rightR (rg l j) = true from if e : j = k then e ▸ h else HS.out.2 j (by omega))
      have HBk := Lib.hid HS.out.1
      generalize rg l k = x at *
      obtain ⟨lx, x1, x2⟩ := x
      have hf := f9
      obtain ⟨p, c, rfl, -, -⟩ := f9
      have HC := Lib.hid (closR_any wr x1 x2 lx p c hf HWk)
      dsimp only at f0 f1 f2
      clear hf HWk HS
      generalize rightR ⟨lx, x1, x2⟩ = T at *
      go_wp2_with fail
      refine HC.out.mono ?_; rintro e w1 ⟨rfl, hb1⟩
      have HB1 := Lib.hid (below_then HBk.out hb1)
      clear hb1 HC f0 f1 f2
      cases T with
      | true =>
        have HJ := Lib.hid (HSn.out rfl)
        go_wp2_with fail
        go_roundw
        case rel => exact ⟨k + 1, hle.out, by go_num, Lib.hid ⟨HB1.out, HJ.out⟩⟩
        case measure => simp [intOf]; omega
      | false =>
        have hR := HNk.out rfl
        subst hR
        go_wp2_with fail
        go_ret
        exact ⟨⟨_, rfl, decide_eq_true (by omega)⟩, HB1.out⟩
    · have : k = l.length := by omega
      subst this
      have hR := HY.out HS.out.2
      subst hR
      go_wp2_with fail
      go_ret
      exact ⟨⟨-1, rfl, by decide⟩, HS.out.1⟩
theorem conR_any (w : World) (u : Value) (l : List Re) (hu : Reals w u l) (hw : ∀ x ∈ l, ReW x) :
    Calls Tryz.prog 113 #[u, .func (.func 114) #[] #[]] w fun e w' => e = .returned (.bool (!allR l)) ∧ Below w.heap.size w w' := by
  have HI := Lib.hid (idxR_any w u l hu hw)
  obtain ⟨a, cap, rfl, -, hm, -⟩ := hu
  generalize allR l = R at *
  clear hw
  go_enter Tryz.func113, Tryz.ntmps113
  go_wp2_with fail
  refine HI.out.mono ?_; rintro e w1 ⟨⟨r, rfl, hr⟩, hb⟩
  have HB := Lib.hid hb
  clear hb HI
  go_wp2_with fail
  go_ret
  exact ⟨by first | rfl | rw [← hr] | (rw [← hr]; rfl), HB.out⟩
/-- A cell of a right schema's set that has so many keys. -/
def validC (S : Sc) (q : Int) (c : Ce) : Bool := decide (c.key < q) && decide (1 ≤ c.cnt) && decide (c.is.length = S.is.length) && decide (c.ns.length = S.ns.length) && allW c.is && allR c.ns
def rightC (S : Sc) (m : Int) (c : Ce) : Bool := decide (checkL S = 0 ∧ m ≤ fullL S.ds) && validC S (keysL S.ds m S.ds.length) c
set_option maxHeartbeats 8000000 in
theorem valid_any (w : World) (D I M V P Q : Value) (S : Sc) (q : Int) (c : Ce) (h : Sch4 w D I M V S) (h' : CeM w P Q c) (hc : CeW c) :
    Calls Tryz.prog 48 #[SchV D I M V, .int .u64 q, CeV c P Q] w fun e w' => e = .returned (.bool (validC S q c)) ∧ Below w.heap.size w w' := by
  have hb1 := below_one w (SchO D I M V)
  have hb2 := below_one (w.alloc (SchO D I M V)) (CeO c P Q)
  have HB := Lib.hid (below_then hb1 hb2)
  have HX := Lib.hid ((box_new w D I M V).below hb2)
  have hy := boxC_new (w.alloc (SchO D I M V)) c P Q
  rw [World.size_alloc] at hy
  have HY := Lib.hid hy
  have HW := Lib.hid (fun w1 (hb : Below w.heap.size w w1) => conW_any w1 P c.is (h'.i.below hb) hc.is)
  have HR := Lib.hid (fun w1 (hb : Below w.heap.size w w1) => conR_any w1 Q c.ns (h'.n.below hb) hc.ns)
  have HV := Lib.hid (show validC S q c = (decide (c.key < q) && decide (1 ≤ c.cnt) && decide (c.is.length = S.is.length) && decide (c.ns.length = S.ns.length) && allW c.is && allR c.ns) from rfl)
  obtain ⟨⟨a1, c1, rfl⟩, ⟨a2, c2, rfl⟩, ⟨a3, c3, rfl⟩, a4, c4, rfl⟩ := h.slices
  obtain ⟨⟨p, k1, rfl⟩, p2, k2, rfl⟩ := h'.slices
  generalize validC S q c = R at *
  clear h h' hc hb1 hb2 hy
  go_enter Tryz.func48, Tryz.ntmps48
  go_upto_region 1 with fail
  generalize (w.alloc (SchO (.slice a1 S.ds.length c1) (.slice a2 S.is.length c2) (.slice a3 S.ns.length c3) (.slice a4 S.vs.length c4))).alloc (CeO c (.slice p c.is.length k1) (.slice p2 c.ns.length k2)) = W at *
  obtain ⟨x0, x1, x2, x3⟩ := HX.out.reads
  obtain ⟨y0, y1, y2, y3⟩ := HY.out.reads
  by_cases h1 : c.key < q
  · have d1 : decide (c.key < q) = true := decide_eq_true h1
    by_cases h2 : 1 ≤ c.cnt
    · have d2 : decide (1 ≤ c.cnt) = true := decide_eq_true h2
      by_cases h3 : c.is.length = S.is.length
      · have d3 : ((c.is.length : Int) == (S.is.length : Int)) = true := by simp [h3]
        by_cases h4 : c.ns.length = S.ns.length
        · have d4 : ((c.ns.length : Int) == (S.ns.length : Int)) = true := by simp [h4]
          have hR : R = (allW c.is && allR c.ns) := HV.out.trans (by rw [d1, d2, decide_eq_true h3, decide_eq_true h4]; simp)
          clear HV h1 h2 h3 h4
          generalize allW c.is = A at *
          generalize allR c.ns = B at *
          go_wp2_with fail
          refine (HW.out _ HB.out).mono ?_; rintro e w1 ⟨rfl, hb⟩
          have HB1 := Lib.hid (below_then HB.out hb)
          have y3 := cell_later hb y3
          clear hb HW
          cases A with
          | false =>
            subst hR
            clear y3
            go_wp2_with fail
            go_ret
            exact ⟨rfl, HB1.out⟩
          | true =>
            subst hR
            go_wp2_with fail
            refine (HR.out _ HB1.out).mono ?_; rintro e w2 ⟨rfl, hb⟩
            have HB2 := Lib.hid (below_then HB1.out hb)
            clear hb HR y3
            cases R
            · go_wp2_with fail
              go_ret
              exact ⟨rfl, HB2.out⟩
            · go_wp2_with fail
              go_ret
              exact ⟨rfl, HB2.out⟩
        · have d4 : ((c.ns.length : Int) == (S.ns.length : Int)) = false := by rw [beq_eq_false_iff_ne]; omega
          have hR : R = false := HV.out.trans (by rw [decide_eq_false h4]; simp)
          subst hR
          clear HV h1 h2 h3 h4 HW HR
          go_wp2_with fail
          go_ret
          exact ⟨rfl, HB.out⟩
      · have d3 : ((c.is.length : Int) == (S.is.length : Int)) = false := by rw [beq_eq_false_iff_ne]; omega
        have hR : R = false := HV.out.trans (by rw [decide_eq_false h3]; simp)
        subst hR
        clear HV h1 h2 h3 HW HR
        go_wp2_with fail
        go_ret
        exact ⟨rfl, HB.out⟩
    · have d2 : decide (1 ≤ c.cnt) = false := decide_eq_false h2
      have hR : R = false := HV.out.trans (by rw [d2]; simp)
      subst hR
      clear HV h1 h2 HW HR
      go_wp2_with fail
      go_ret
      exact ⟨rfl, HB.out⟩
  · have d1 : decide (c.key < q) = false := decide_eq_false h1
    have hR : R = false := HV.out.trans (by rw [d1]; simp)
    subst hR
    clear HV h1 HW HR
    go_wp2_with fail
    go_ret
    exact ⟨rfl, HB.out⟩
set_option maxHeartbeats 4000000 in
theorem pright_any (w : World) (D I M V P Q : Value) (S : Sc) (m : Int) (c : Ce) (h : Sch4 w D I M V S) (hw : SWf S) (h' : CeM w P Q c) (hc : CeW c) (m0 : 0 ≤ m) (m1 : m ≤ 4294967295) :
    Calls Tryz.prog 18 #[SchV D I M V, .int .u32 m, CeV c P Q] w fun e w' => e = .returned (.bool (rightC S m c)) ∧ Below w.heap.size w w' := by
  have hb1 := below_one w (SchO D I M V)
  have hb2 := below_one (w.alloc (SchO D I M V)) (CeO c P Q)
  have HB := Lib.hid (below_then hb1 hb2)
  have HX := Lib.hid ((box_new w D I M V).below hb2)
  have hy := boxC_new (w.alloc (SchO D I M V)) c P Q
  rw [World.size_alloc] at hy
  have HY := Lib.hid hy
  have HK := Lib.hid (fun w1 (hb : Below w.heap.size w w1) => keys_any w1 D I M V S m (h.below hb) hw m0 m1)
  have HV := Lib.hid (fun w1 q (hb : Below w.heap.size w w1) => valid_any w1 D I M V P Q S q c (h.below hb) (h'.below hb) hc)
  have HR := Lib.hid (show rightC S m c = (decide (checkL S = 0 ∧ m ≤ fullL S.ds) && validC S (keysL S.ds m S.ds.length) c) from rfl)
  obtain ⟨⟨a1, c1, rfl⟩, ⟨a2, c2, rfl⟩, ⟨a3, c3, rfl⟩, a4, c4, rfl⟩ := h.slices
  obtain ⟨⟨p, k1, rfl⟩, p2, k2, rfl⟩ := h'.slices
  generalize rightC S m c = R at *
  clear h h' hc hw hb1 hb2 hy m0 m1
  go_enter Tryz.func18, Tryz.ntmps18
  go_upto_region 1 with fail
  generalize (w.alloc (SchO (.slice a1 S.ds.length c1) (.slice a2 S.is.length c2) (.slice a3 S.ns.length c3) (.slice a4 S.vs.length c4))).alloc (CeO c (.slice p c.is.length k1) (.slice p2 c.ns.length k2)) = W at *
  obtain ⟨x0, x1, x2, x3⟩ := HX.out.reads
  go_wp2_with fail
  refine (HK.out _ HB.out).mono ?_; rintro e w1 ⟨rfl, hb⟩
  have HB1 := Lib.hid (below_then HB.out hb)
  obtain ⟨x0, x1, x2, x3⟩ := (HX.out.below hb).reads
  obtain ⟨y0, y1, y2, y3⟩ := (HY.out.below hb).reads
  clear hb HK
  by_cases hk : checkL S = 0 ∧ m ≤ fullL S.ds
  · rw [if_pos hk, decide_eq_true hk]
    have hR := HR.out
    rw [decide_eq_true hk, Bool.true_and] at hR
    have HV2 := Lib.hid (HV.out w1 (keysL S.ds m S.ds.length) HB1.out)
    rw [← hR] at HV2
    clear hk HR HV hR
    generalize keysL S.ds m S.ds.length = K at *
    go_wp2_with fail
    refine HV2.out.mono ?_; rintro e w2 ⟨rfl, hb⟩
    have HB2 := Lib.hid (below_then HB1.out hb)
    clear hb HV2 x0 x1 x2 x3 y0 y1 y2 y3
    go_wp2_with fail
    go_ret
    exact ⟨rfl, HB2.out⟩
  · rw [if_neg hk, decide_eq_false hk]
    have hR : R = false := HR.out.trans (by rw [decide_eq_false hk]; rfl)
    subst hR
    clear hk HR HV x0 x1 x2 x3 y0 y1 y2 y3
    go_wp2_with fail
    go_ret
    exact ⟨rfl, HB1.out⟩
end Go.Proofs.YtigikgphipebiaaGreatDoor
/- Layer 14: the program's Value. -/
namespace Go.Proofs.YtigikgphipebiaaGreatDoor
set_option maxRecDepth 100000
open Go.RowKit
set_option linter.unusedVariables false
theorem readP_two {l : List Int} {w w' : World} {e : Ending} (h : ReadP5 l w e w') : ∃ p, e = .returned (.tuple #[.pointer p, .int .i64 (errN l)]) ∧ Below w.heap.size w w' ∧ (errN l = 0 → ∃ N, p = some ⟨N, 0, none⟩ ∧ w.heap.size ≤ N ∧ SumAt w' N (readF l) (readT l)) ∧ (errN l ≠ 0 → p = none) := by
  rcases h with ⟨h0, rfl, hb⟩ | ⟨h0, N, rfl, hN, hs, hb⟩
  · exact ⟨none, rfl, hb, fun q => absurd q h0, fun _ => rfl⟩
  · exact ⟨some ⟨N, 0, none⟩, by rw [h0]; rfl, hb, fun _ => ⟨N, rfl, hN, hs⟩, fun q => absurd h0 q⟩
set_option maxHeartbeats 4000000 in
theorem pvalue14_any (w : World) (p : Option Addr) (L c mn mx : Nat) (l : List Int) (h : Ints .u8 w (.slice p L c) l) (hb : Bt l) (hT : Tab w) :
    Calls Tryz.prog 23 #[.agg #[.slice p L c, .float .f64 mn, .float .f64 mx]] w (ValueP (if errN l = 0 then valueW (readF l) (readT l) else 0) w) := by
  have hb1 := below_one w (.cells #[.slice p L c, .float .f64 mn, .float .f64 mx] 63)
  have HR := Lib.hid (fun w1 (hb1 : Below w.heap.size w w1) => pread_any p L c l w1 (h.below hb1) hb)
  have HB := Lib.hid hb1
  have HT := Lib.hid (fun w1 (hb : Below w.heap.size w w1) => hT.call hb)
  obtain ⟨e0, e1, e2⟩ := row3 (heap_alloc_new w (.cells #[.slice p L c, .float .f64 mn, .float .f64 mx] 63))
  have hsf := fun (w : World) (a : Addr) (m : Mode) (k : Nat) => run_store_f64 (P := Tryz.prog) (w := w) (a := a) (m := m) k
  generalize hX : (if errN l = 0 then valueW (readF l) (readT l) else 0) = X
  have HXX := Lib.hid hX
  unfold ValueP
  clear h hb hb1 hT hX
  go_enter Tryz.func23, Tryz.ntmps23
  go_upto_region 1 with fail
  generalize w.alloc (.cells #[.slice p L c, .float .f64 mn, .float .f64 mx] 63) = W at *
  go_wp2_with fail
  refine (HR.out _ HB.out).mono ?_; rintro e w1 hr
  obtain ⟨pp, rfl, hb1, hs⟩ := readP_two hr
  have HB1 := Lib.hid (below_then HB.out hb1)
  have HS := Lib.hid hs
  clear hr hb1 hs e0 e1 e2 HR
  by_cases he : errN l = 0
  · obtain ⟨N, rfl, -, hsN⟩ := HS.out.1 he
    have hq : valueW (readF l) (readT l) = X := (if_pos he).symm.trans HXX.out
    clear HXX
    have HV := Lib.hid (pvalue_any w1 N _ _ hsN (HT.out _ HB1.out))
    unfold ValueP at HV
    rw [hq] at HV
    clear hsN he HS HT hq
    go_wp2_with fail
    refine HV.out.mono ?_; rintro e w2 ⟨rfl, hb2⟩
    have HB2 := Lib.hid (below_then HB1.out hb2)
    clear hb2 HV
    go_wp2_with fail
    go_ret
    exact ⟨rfl, HB2.out⟩
  · obtain rfl : 0 = X := (if_neg he).symm.trans HXX.out
    obtain rfl := HS.out.2 he
    have HV := Lib.hid (value_no w1 none (noSum_nil w1))
    clear HXX HS HT
    have he2 : ((errN l : Int) == 0) = false := by simp; omega
    go_wp2_with fail
    refine HV.out.mono ?_; rintro e w2 ⟨rfl, rfl⟩
    clear HV
    go_wp2_with fail
    go_ret
    exact ⟨rfl, HB1.out⟩
end Go.Proofs.YtigikgphipebiaaGreatDoor
