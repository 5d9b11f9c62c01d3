/- What Uint, Of and Noughts of package nat return. -/
import Derived.Test.YtpfcacjcikhamaaDoorNatd
namespace Go.Proofs.YtpfcacjcikhamaaDoor
set_option maxRecDepth 100000
open Go.RowKit
set_option linter.unusedVariables false
def smallB (z : Int) : Bool := decide (z < 18446744073709551616)
theorem smallB_yes {z : Int} (h : z < 18446744073709551616) : smallB z = true := by simp [smallB, h]
theorem smallB_no {z : Int} (h : 18446744073709551616 ≤ z) : smallB z = false := by simp [smallB]; omega
theorem ret_ub {a b : Int} {x y : Bool} (h : a = b) (g : x = y) : Ending.returned (.tuple #[.int .u64 a, .bool x]) = .returned (.tuple #[.int .u64 b, .bool y]) := by rw [h, g]
theorem uint_round {x : List Int} {k : Nat} {z s : Int} (hk : k = 0 ∨ k = 1) (hz : 0 ≤ z ∧ z < 4294967296 ^ k) (s0 : 0 ≤ s) (s1 : s ≤ 4294967295) (hs : z + s * 4294967296 ^ k = wvN x (k + 1)) :
    bits BinOp.or IntKind.u64 z (IntKind.u64.wrap (s * 2 ^ (k * 32))) = wvN x (k + 1) := by
  rw [← hs]
  rcases hk with rfl | rfl
  · have h0 : z = 0 := by have := hz.2; simp at this; omega
    subst h0
    obtain ⟨S, rfl⟩ := Int.eq_ofNat_of_zero_le s0
    have := bits_or_u64_nat 0 S (by omega) (by omega)
    simp only [Nat.zero_or] at this
    simp [IntKind.wrap_u64]
    rw [Int.emod_eq_of_lt (by omega) (by omega)]
    simpa using this
  · have e : (2 : Int) ^ (1 * 32) = 4294967296 := by decide
    rw [e, IntKind.wrap_u64, Int.emod_eq_of_lt (by omega) (by omega)]
    have := hz.2
    simp only [Int.pow_one] at this ⊢
    rw [or_words' s z s0 s1 hz.1 (by omega)]
    omega
set_option maxHeartbeats 1000000 in
theorem uint_any (u : Value) (a : List Int) (w : World) (hu : WList w u a) :
    Calls Tryd.prog 14 #[u] w fun e w' => e = .returned (.tuple #[.int .u64 (bif smallB (wv a) then wv a else 0), .bool (smallB (wv a))]) ∧ w = w' := by
  obtain ⟨p, c, rfl⟩ := hu.shape
  have HU := Lib.hid hu
  have HS := Lib.hid (sig_any p a.length c a w hu.1 hu.2.2)
  clear hu
  go_enter Tryd.func14, Tryd.ntmps14
  go_wp2_with fail
  refine (HS.out).mono ?_; rintro e w' ⟨u1, n, rfl, hc, rfl⟩
  obtain ⟨hx, ex, tx⟩ := hc.wlist HU.out
  generalize a.take n = x at *
  have EX := Lib.hid ex
  have TX := Lib.hid tx
  clear HU HS hc ex tx
  obtain ⟨p1, c1, rfl⟩ := hx.shape
  have HX := Lib.hid hx
  have lx : x.length ≤ 1099511627776 := hx.2.2
  clear hx
  by_cases h2 : 2 < x.length
  · have hz : 18446744073709551616 ≤ wv a := by
      have h1 := TX.out.wsize HX.out.2.1 (by intro e; subst e; simp at h2)
      have h3 := q_mono (m := 2) (n := x.length - 1) (by omega)
      have e : (4294967296 : Int) ^ 2 = 18446744073709551616 := by decide
      rw [← EX.out]; omega
    have HZ := Lib.hid (smallB_no hz)
    clear hz
    go_wp2_with fail
    go_ret2
    exact ⟨ret_ub (by rw [HZ.out]; rfl) (by rw [HZ.out]), rfl⟩
  · have hz : wv a < 18446744073709551616 := by
      have h1 := (wv_range HX.out.2.1).2
      have h3 := q_mono (m := x.length) (n := 2) (by omega)
      have e : (4294967296 : Int) ^ 2 = 18446744073709551616 := by decide
      rw [← EX.out]; omega
    have HZ := Lib.hid (smallB_yes hz)
    clear hz
    go_wp2_with fail
    go_loop [4, 13] (fun y i => ∃ (k : Nat) (z : Int), k ≤ x.length ∧ i = .int .i64 k ∧ y = .int .u64 z ∧ Hid (z = wvN x k)) (fun _ i => x.length - (intOf i).toNat)
    case atStart => exact ⟨0, 0, Nat.zero_le _, rfl, rfl, Lib.hid rfl⟩
    case round =>
      obtain ⟨k, z, hk, rfl, rfl, hz⟩ := hrel
      by_cases hlt : k < x.length
      · obtain ⟨b1, o1, hp1, hb1, hc1⟩ := HX.out.1.cell (i := k) hlt
        subst hp1
        have hd := HX.out.2.1.getD k
        have hs : Hid (∀ s : Int, x.getD k 0 = s → z + s * 4294967296 ^ k = wvN x (k + 1)) := Lib.hid (fun s e => by rw [hz.out, wvN, e])
        have hzr := wvN_range HX.out.2.1 k
        rw [← hz.out] at hzr
        generalize x.getD k 0 = s at *
        have hs2 := Lib.hid (hs.out s rfl)
        clear hs hz
        have hk2 : k = 0 ∨ k = 1 := by omega
        have hk3 : (k : Int) ≤ 1 := by omega
        have hH := Lib.hid hk2
        have hZ := Lib.hid hzr
        clear hk2 hzr
        obtain ⟨hd0, hd1⟩ := hd
        go_wp2_with fail
        go_round
        case rel => exact ⟨k + 1, _, by omega, by go_num, rfl, Lib.hid (uint_round hH.out hZ.out hd0 hd1 hs2.out)⟩
        case measure => simp [intOf]; omega
      · have hE := Lib.hid (hz.out.trans (wvN_past x (by omega)))
        rw [EX.out] at hE
        clear hz
        go_wp2_with fail
        go_ret2
        exact ⟨ret_ub (by rw [HZ.out, hE.out]; rfl) (by rw [HZ.out]), rfl⟩
theorem own_words2 (x y : Int) (w : World) (B : Nat) (hB : B ≤ w.heap.size) : WRow (w.alloc (.cells #[.int .u32 x, .int .u32 y] 31)) B w.heap.size 2 [x, y] :=
  ⟨by simp, .inr ⟨w.heap.size, 2, #[.int .u32 x, .int .u32 y], rfl, hB, heap_alloc_new w _, by simp, by unfold maxLen; omega, by simp, by simp⟩⟩
set_option maxHeartbeats 1000000 in
theorem of_any' (x : Int) (h0 : 0 ≤ x) (h1 : x ≤ 18446744073709551615) (w : World) :
    Calls Tryd.prog 19 #[.int .u64 x] w (Fresh w x 2) := by
  have hR := own_words2 (x % 4294967296) (x / 4294967296) w w.heap.size (Nat.le_refl _)
  have hd : Wd [x % 4294967296, x / 4294967296] := by
    intro y hy; simp at hy; omega
  have hz : wv [x % 4294967296, x / 4294967296] = x := by simp [wv, wvN]; omega
  have HL := Lib.hid (hR.wlist hd (by simp))
  have HS := Lib.hid (sig_any _ _ 2 _ _ HL.out.1 (by simp))
  have HR := Lib.hid hR
  have HZ := Lib.hid hz
  clear hR hd hz
  go_enter Tryd.func19, Tryd.ntmps19
  go_wp2_with fail
  refine (HS.out).mono ?_; rintro e w' ⟨u1, n, rfl, hc, rfl⟩
  have hw := hc.wlist HL.out
  have ho := hc.own HR.out
  go_wp2_with fail
  go_ret
  exact ⟨_, _, rfl, ho, hw.1.2.1, hw.2.2, hw.2.1.trans HZ.out, by rw [List.length_take]; simp; omega, below_one w _⟩
end Go.Proofs.YtpfcacjcikhamaaDoor
