/- What Shl and Shr of package nat return. -/
import Derived.Test.YtpfcacjcikhamaaDoorNatf
import Derived.Test.YtpfcacjcikhamaaDoorNatn
namespace Go.Proofs.YtpfcacjcikhamaaDoor
set_option maxRecDepth 100000
open Go.RowKit
set_option linter.unusedVariables false
def ShrRel (x : List Int) (R i : Nat) (out : List Int) : Prop := wvN out i = wv x / 2 ^ R % 4294967296 ^ i ∧ Wd out ∧ out.length = x.length
theorem ShrRel.start (x : List Int) (R : Nat) : ShrRel x R 0 (List.replicate x.length 0) := ⟨by simp [wvN, Int.emod_one], Wd.zeros _, by simp⟩
theorem emod_succ (z : Int) (h0 : 0 ≤ z) (i : Nat) : z % 4294967296 ^ (i + 1) = z % 4294967296 ^ i + z / 4294967296 ^ i % 4294967296 * 4294967296 ^ i := by
  have hp := q_pos i
  have h1 := Int.emod_add_mul_ediv z (4294967296 ^ i)
  have h2 := Int.emod_add_mul_ediv (z / 4294967296 ^ i) 4294967296
  have h3 := Int.emod_nonneg z (show (4294967296 : Int) ^ i ≠ 0 by omega)
  have h4 := Int.emod_lt_of_pos z hp
  have hq0 : 0 ≤ z / 4294967296 ^ i := Int.ediv_nonneg h0 (by omega)
  generalize hA : z % 4294967296 ^ i = A at *
  generalize hB : z / 4294967296 ^ i = B at *
  have h5 : 0 ≤ B % 4294967296 ∧ B % 4294967296 ≤ 4294967295 := by omega
  generalize hC : B % 4294967296 = C at *
  generalize hD : B / 4294967296 = D at *
  rw [q_succ]
  generalize hP : (4294967296 : Int) ^ i = P at *
  have e : z = (A + C * P) + (P * 4294967296) * D := by
    rw [← h1, ← h2, Int.mul_add, Int.mul_comm P C, Int.mul_assoc]; omega
  have k1 : C * P ≤ 4294967295 * P := Int.mul_le_mul_of_nonneg_right h5.2 (by omega)
  have k2 : 0 ≤ C * P := Int.mul_nonneg h5.1 (by omega)
  rw [e, Int.add_mul_emod_self_left, Int.emod_eq_of_lt (by omega) (by omega)]
theorem wv_nonneg {x : List Int} (hd : Wd x) : 0 ≤ wv x := (wv_range hd).1
theorem wv_div (x : List Int) (hd : Wd x) (i : Nat) (hi : i ≤ x.length) : wv x / 4294967296 ^ i = wv (x.drop i) := by
  have h := wv_split x hi
  have h1 := wvN_range hd i
  rw [h, Int.add_mul_ediv_left _ _ (by have := q_pos i; omega), Int.ediv_eq_zero_of_lt h1.1 h1.2]; omega
theorem shr_word {x : List Int} (hd : Wd x) {i R : Nat} (hi : i < x.length) (hR : R < 32) (s y : Int) (hs : x.getD i 0 = s) (hy : x.getD (i + 1) 0 = y) :
    wv x / 2 ^ R / 4294967296 ^ i % 4294967296 = (y * 4294967296 + s) / 2 ^ R % 4294967296 := by
  have hP : (0 : Int) < 2 ^ R := Int.pow_pos (by decide)
  rw [Int.ediv_ediv_of_nonneg (by omega), Int.mul_comm, ← Int.ediv_ediv_of_nonneg (by have := q_pos i; omega), wv_div x hd i (by omega)]
  have e1 := wv_head (a := x.drop i) (by rw [List.length_drop]; omega)
  have e2 : (x.drop i).getD 0 0 = s := by rw [← hs]; simp [List.getD]
  rw [e2] at e1
  have e3 : ∃ t : Int, wv (x.drop i) = (y * 4294967296 + s) + 2 ^ R * (4294967296 * t) := by
    obtain ⟨S, hS⟩ : ∃ S, 32 = R + S := ⟨32 - R, by omega⟩
    have hQ : (4294967296 : Int) = 2 ^ R * 2 ^ S := by rw [← Int.pow_add, ← hS]; rfl
    by_cases hl : i + 1 < x.length
    · have e4 := wv_head (a := (x.drop i).drop 1) (by rw [List.length_drop, List.length_drop]; omega)
      have e5 : ((x.drop i).drop 1).getD 0 0 = y := by rw [← hy]; simp [List.getD]
      rw [e5] at e4
      refine ⟨2 ^ S * wv (((x.drop i).drop 1).drop 1), ?_⟩
      rw [e1, e4]
      have e6 : 2 ^ R * (4294967296 * (2 ^ S * wv (((x.drop i).drop 1).drop 1))) = 4294967296 * (4294967296 * wv (((x.drop i).drop 1).drop 1)) := by
        conv => rhs; rw [hQ]
        conv => lhs; rw [hQ]
        simp only [Int.mul_assoc, Int.mul_left_comm]
      rw [e6]; omega
    · have e4 : (x.drop i).drop 1 = [] := by rw [List.drop_drop]; exact List.drop_eq_nil_of_le (by omega)
      rw [e4] at e1
      have hy0 : y = 0 := by rw [← hy]; exact getD_past (by omega)
      exact ⟨0, by rw [e1, wv_nil, hy0]; omega⟩
  obtain ⟨t, ht⟩ := e3
  rw [ht, Int.add_mul_ediv_left _ _ (by omega), Int.add_mul_emod_self_left]
theorem ShrRel.step {x out : List Int} {R i : Nat} (hd : Wd x) (h : ShrRel x R i out) (hi : i < x.length) (hR : R < 32) (s y : Int) (hs : x.getD i 0 = s) (hy : x.getD (i + 1) 0 = y) :
    ShrRel x R (i + 1) (out.set i ((y * 4294967296 + s) / 2 ^ R % 4294967296)) := by
  obtain ⟨h1, h2, h3⟩ := h
  refine ⟨?_, h2.set (by omega) (by omega), by simpa using h3⟩
  have hP : (0 : Int) < 2 ^ R := Int.pow_pos (by decide)
  rw [wvN_set_succ (by omega), h1, emod_succ _ (Int.ediv_nonneg (wv_nonneg hd) (by omega)), shr_word hd hi hR s y hs hy]
theorem ShrRel.stop {x out : List Int} {R : Nat} (hd : Wd x) (h : ShrRel x R x.length out) : wv out = wv x / 2 ^ R := by
  obtain ⟨h1, h2, h3⟩ := h
  have hP : (0 : Int) < 2 ^ R := Int.pow_pos (by decide)
  have hr := wv_range hd
  have h4 : wv x / 2 ^ R ≤ wv x := Int.ediv_le_self _ hr.1
  have h5 : 0 ≤ wv x / 2 ^ R := Int.ediv_nonneg hr.1 (by omega)
  rw [← wvN_past out (n := x.length) (by omega), h1, Int.emod_eq_of_lt h5 (by omega)]
theorem Ints.dropped {k : IntKind} {w : World} {zs : List Int} {b off L cap W : Nat} (h : Ints k w (.slice (some ⟨b, off, none⟩) (W + L) cap) zs) (hL : zs.length = W + L) : Ints k w (.slice (some ⟨b, off + W, none⟩) L (cap - W)) (zs.drop W) := by
  obtain ⟨a, cap', e, hc, ha⟩ := h
  simp only [Value.slice.injEq] at e
  obtain ⟨rfl, -, rfl⟩ := e
  have hl : (zs.drop W).length = L := by rw [List.length_drop]; omega
  refine ⟨_, _, by rw [hl], by omega, ?_⟩
  rcases ha with h | ⟨b', off', e, hb, hcell⟩
  · left; rw [h]; simp
  · simp only [Option.some.injEq, Addr.mk.injEq, and_true] at e
    obtain ⟨rfl, rfl⟩ := e
    refine .inr ⟨b, off + W, rfl, hb, fun i hi => ?_⟩
    rw [hl] at hi
    have := hcell (W + i) (by omega)
    rw [← Nat.add_assoc] at this
    rw [this]; simp [List.getD]
theorem shr_zero {a : List Int} (hd : Wd a) {N : Nat} (hN : a.length ≤ N / 32) : wv a / 2 ^ N = 0 := by
  have hr := wv_range hd
  have h1 : (4294967296 : Int) ^ a.length ≤ 2 ^ N := by
    rw [pow32]
    have := Nat.pow_le_pow_right (n := 2) (by decide) (show a.length * 32 ≤ N by omega)
    have e1 : ((2 ^ (a.length * 32) : Nat) : Int) = (2 : Int) ^ (a.length * 32) := by simp
    have e2 : ((2 ^ N : Nat) : Int) = (2 : Int) ^ N := by simp
    omega
  exact Int.ediv_eq_zero_of_lt hr.1 (by omega)
theorem shr_split {a : List Int} (hd : Wd a) {N W R : Nat} (hN : N = 32 * W + R) (hW : W ≤ a.length) : wv (a.drop W) / 2 ^ R = wv a / 2 ^ N := by
  rw [← wv_div a hd W hW, Int.ediv_ediv_of_nonneg (by have := q_pos W; omega), pow32, ← Int.pow_add]
  congr 2; omega
set_option maxHeartbeats 1000000 in
theorem shr_any (u : Value) (a : List Int) (w : World) (hu : WList w u a) (la : a.length ≤ 274877906944) (n : Int) (N : Nat) (hn : max n 0 = (N : Int)) (hN : N ≤ 9223372036854775807) :
    Calls Tryd.prog 80 #[u, .int .i64 n] w (Fresh w (wv a / 2 ^ N) a.length) := by
  obtain ⟨i0, hi, hz0, hz1, hz2⟩ := info_parts Tryd.infoU32
  have hx : ∃ W R : Nat, N = 32 * W + R ∧ R < 32 := ⟨N / 32, N % 32, by omega, by omega⟩
  obtain ⟨W, R, hW, hR⟩ := hx
  have hq : (N : Int) / 32 = (W : Int) := by omega
  have hr : (N : Int) % 32 = (R : Int) := by omega
  have hNW := Lib.hid hW
  have HU := Lib.hid hu
  by_cases hl : a.length ≤ W
  · have HZ := Lib.hid (shr_zero hu.2.1 (N := N) (by omega))
    obtain ⟨p, c, rfl⟩ := hu.shape
    clear hu hW
    go_enter Tryd.func80, Tryd.ntmps80
    go_wp2_with fail
    go_ret
    exact ⟨_, [], rfl, World.ownsRow_nil _ _ _ _, Wd.nil, .inl rfl, by rw [HZ.out]; rfl, Nat.zero_le _, Below.refl _ _⟩
  · obtain ⟨L, hL⟩ : ∃ L, a.length = W + L := ⟨a.length - W, by omega⟩
    obtain ⟨b, off, cap, rfl⟩ : ∃ b off cap, u = .slice (some ⟨b, off, none⟩) (W + L) cap := by
      obtain ⟨p, c, rfl⟩ := hu.shape
      obtain ⟨b, off, hp, _⟩ := hu.1.cell (i := 0) (by omega)
      exact ⟨b, off, c, by rw [hp, hL]⟩
    have hcap : W + L ≤ cap := by
      obtain ⟨_, _, e, h, _⟩ := hu.1
      simp only [Value.slice.injEq] at e
      omega
    have hI := hu.1.dropped hL
    have hD := hu.2.1.drop W
    have hlx : (a.drop W).length = L := by rw [List.length_drop]; omega
    have hzz := Lib.hid (shr_split hu.2.1 hW (by omega))
    have hm : L ≤ a.length := by omega
    have lL : L ≤ 274877906944 := by omega
    have hL0 : 0 < L := by omega
    have hcp : L ≤ cap - W := by omega
    have hcw : (W : Int) ≤ (cap : Int) := by omega
    have hm := Lib.hid hm
    generalize a.drop W = x at *
    have HX := Lib.hid (And.intro hI hD)
    have HL := Lib.hid hlx
    have hWL : decide ((W : Int) + (L : Int) ≤ (W : Int)) = false := by simp; omega
    have hWb : W + L ≤ 274877906944 := by omega
    clear hu hL hl hI hD hlx HU hW
    go_enter Tryd.func80, Tryd.ntmps80
    go_wp2_with (at_make; refine wpList_make_full _ rfl _ _ 22 rfl w.heap.size 31 i0 (.int .u32 0) 1 Tryd.underlying22 hi hz0 hz1 .i64 .i64 _ _ L rfl rfl (by omega) (by omega) (by rw [hz2]; omega) (by unfold maxLen; omega) (by simp) ?_; intro w0 hown hgrow)
    have hF := wrow_made rfl hown hgrow
    have hF := Lib.hid hF
    clear hown hgrow
    go_wp2_with fail
    have lx := Lib.hid HL.out
    go_loopw [28] (fun i wr => ∃ (k : Nat) (out : List Int), k ≤ L ∧ i = .int .i64 k ∧ Hid (ShrRel x R k out) ∧ Hid (Fill w w.heap.size L out wr)) (fun i _ => L - (intOf i).toNat)
    case atStart => exact ⟨0, _, Nat.zero_le _, rfl, Lib.hid (by have := ShrRel.start x R; rwa [HL.out] at this), hF⟩
    case round =>
      obtain ⟨k, out, hk, rfl, hO, hS⟩ := hrel
      clear hF hq hr
      have hlen := Lib.hid (hO.out.2.2.trans HL.out)
      by_cases hlt : k < L
      · obtain ⟨ho1, ho2⟩ := hS.out.cells (j := k) (by have := hlen.out; omega)
        obtain ⟨b1, o1, hp1, hb1, hc1⟩ := HX.out.1.cell (i := k) (by have := HL.out; omega)
        simp only [Option.some.injEq, Addr.mk.injEq, and_true] at hp1
        obtain ⟨rfl, rfl⟩ := hp1
        have hc1 := cell_later hS.out.2 hc1
        have dx := HX.out.2.getD k
        have dy := HX.out.2.getD (k + 1)
        have hst := Lib.hid (fun (s y : Int) (hs : x.getD k 0 = s) (hy : x.getD (k + 1) 0 = y) => hO.out.step HX.out.2 (by have := HL.out; omega) hR s y hs hy)
        have hSS := Lib.hid (fun (z : Int) => hS.out.set k z)
        by_cases hyl : k + 1 < L
        · obtain ⟨b2, o2, hp2, hb2, hc2⟩ := HX.out.1.cell (i := k + 1) (by have := HL.out; omega)
          simp only [Option.some.injEq, Addr.mk.injEq, and_true] at hp2
          obtain ⟨rfl, rfl⟩ := hp2
          have hc2 := cell_later hS.out.2 hc2
          generalize x.getD k 0 = s at *
          generalize x.getD (k + 1) 0 = y at *
          have hst2 := Lib.hid (hst.out s y rfl rfl)
          have hor := or_words' y s dy.1 dy.2 dx.1 dx.2
          have hs1 : 0 ≤ y * 4294967296 + s := by omega
          obtain ⟨s0, s9⟩ := dx
          obtain ⟨y0, y9⟩ := dy
          clear hst hO hS hb1 hb2
          go_wp2_with fail
          go_roundw
          case rel => exact ⟨k + 1, _, by omega, by go_num, hst2, Lib.hid (hSS.out _)⟩
          case measure => simp [intOf]; omega
        · have hy0 : x.getD (k + 1) 0 = 0 := getD_past (by have := HL.out; omega)
          generalize x.getD k 0 = s at *
          have hst2 := Lib.hid (hst.out s 0 rfl hy0)
          rw [Int.zero_mul, Int.zero_add] at hst2
          obtain ⟨s0, s9⟩ := dx
          clear hst hO hS hb1 hy0 dy
          go_wp2_with fail
          go_roundw
          case rel => exact ⟨k + 1, _, by omega, by go_num, hst2, Lib.hid (hSS.out _)⟩
          case measure => simp [intOf]; omega
      · obtain rfl : k = L := by omega
        have hE := Lib.hid (ShrRel.stop HX.out.2 (by rw [HL.out]; exact hO.out))
        have hD := Lib.hid hO.out.2.1
        have hW2 := Lib.hid (hS.out.1.wlist hO.out.2.1 (by have := hlen.out; omega))
        have HS := Lib.hid (sig_any _ _ _ _ _ hW2.out.1 (by have := hlen.out; omega))
        rw [hlen.out] at HS
        clear hO hW2
        go_wp2_with fail
        refine (HS.out).mono ?_; rintro e w' ⟨u1, m, rfl, hc, rfl⟩
        go_wp2_with fail
        go_ret
        exact fill_end hS.out hD.out (by have := hlen.out; omega) (hE.out.trans hzz.out) (by have := hlen.out; have := hm.out; omega) hc
end Go.Proofs.YtpfcacjcikhamaaDoor
