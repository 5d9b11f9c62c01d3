/- What Cmp, Bits, Uint and Of of package nat return. -/
import Derived.Test.YtpfcacjcikhamaaDoorNatc
import Derived.Deep.QuietTactic
import Derived.BigQuiet
namespace Go.Proofs.YtpfcacjcikhamaaDoor
set_option maxRecDepth 100000
open Go.RowKit
set_option linter.unusedVariables false
theorem tidy_len_lt {a b : List Int} (ha : Wd a) (hb : Wd b) (ht : Tidy b) (h : a.length < b.length) : wv a < wv b := by
  have h1 := ht.wsize hb (by intro e; subst e; simp at h)
  have h2 := (wv_range ha).2
  have h3 := q_mono (m := a.length) (n := b.length - 1) (by omega)
  omega
theorem sign_same (b : Bool) (w : World) : Calls Tryd.prog 57 #[.bool b] w fun e w' => e = .returned (.int .i64 (bif b then -1 else 1)) ∧ w' = w :=
  (sign_any b w).mono fun _ _ h => ⟨h.1, h.2.symm⟩
/-- A call that leaves the world alone, in a drawn region behind another one. -/
theorem quiet_later {P : Program} {f : FuncId} {args : Array Value} {w : World} {k n : Nat} {v : Value} (h : Calls P f args (w.drewN (k + n)) fun e w' => e = .returned v ∧ w' = w.drewN (k + n)) :
    Calls P f args (w.drewN (k + n)) fun e w' => e = .returned v ∧ ∃ m, w' = w.drewN (k + m) := h.mono fun _ _ q => ⟨q.1, n, q.2⟩
set_option maxHeartbeats 1000000 in
theorem cmp_any (u v : Value) (a b : List Int) (w : World) (hu : WList w u a) (hv : WList w v b) :
    Calls Tryd.prog 22 #[u, v] w fun e w' => e = .returned (.int .i64 (cmpI (wv a) (wv b))) ∧ ∃ n, w' = w.drewN n := by
  obtain ⟨p, c, rfl⟩ := hu.shape
  obtain ⟨q, d, rfl⟩ := hv.shape
  have HU := Lib.hid hu
  have HV := Lib.hid hv
  have HS := Lib.hid (sig_any p a.length c a w hu.1 hu.2.2)
  have HT := Lib.hid (sig_any q b.length d b w hv.1 hv.2.2)
  clear hu hv
  go_enter Tryd.func22, Tryd.ntmps22
  go_wp2_with fail
  refine (HS.out).mono ?_; rintro e w' ⟨u1, n, rfl, hc, rfl⟩
  go_wp2_with fail
  refine (HT.out).mono ?_; rintro e w' ⟨v1, m, rfl, hd, rfl⟩
  obtain ⟨hx, ex, tx⟩ := hc.wlist HU.out
  obtain ⟨hy, ey, ty⟩ := hd.wlist HV.out
  generalize a.take n = x at *
  generalize b.take m = y at *
  have EX := Lib.hid (And.intro ex ey)
  have TX := Lib.hid (And.intro tx ty)
  clear HU HV HS HT hc hd ex ey tx ty
  obtain ⟨p1, c1, rfl⟩ := hx.shape
  obtain ⟨q1, d1, rfl⟩ := hy.shape
  have HX := Lib.hid hx
  have HY := Lib.hid hy
  have lx : x.length ≤ 1099511627776 := hx.2.2
  have ly : y.length ≤ 1099511627776 := hy.2.2
  clear hx hy
  rcases Nat.lt_trichotomy x.length y.length with hlt | heq | hgt
  · have hr := Lib.hid (cmpI_lt (tidy_len_lt HX.out.2.1 HY.out.2.1 TX.out.2 hlt))
    rw [EX.out.1, EX.out.2] at hr
    have hne : ¬ x.length = y.length := by omega
    go_wp2_with (go_at_call 57; refine (sign_any _ _).mono ?_; rintro e w' ⟨rfl, rfl⟩)
    go_ret
    exact ⟨ret_int (by rw [hr.out]), 0, rfl⟩
  · obtain ⟨L, hL⟩ : ∃ L, x.length = L := ⟨_, rfl⟩
    have hL2 : y.length = L := by omega
    have HL := Lib.hid (And.intro hL hL2)
    rw [hL] at HX
    rw [hL2] at HY
    rw [hL, hL2]
    clear heq hL2 ly
    rw [hL] at lx
    clear hL
    go_wp2_with fail
    go_loopw [24] (fun i wr => ∃ (k m nd : Nat), Hid (L = k + m) ∧ k ≤ L ∧ i = .int .i64 k ∧ Hid (∀ j, m ≤ j → x.getD j 0 = y.getD j 0) ∧ wr = w.drewN nd) (fun i _ => L - (intOf i).toNat)
    case atStart => exact ⟨0, L, 0, Lib.hid (by omega), by omega, rfl, Lib.hid (same_past (by have := HL.out; omega) (by have := HL.out; omega)), rfl⟩
    case round =>
      obtain ⟨k, m, nd, hm, hk, rfl, hs, rfl⟩ := hrel
      by_cases hlt : k < L
      · obtain ⟨n, rfl⟩ : ∃ n, m = n + 1 := ⟨m - 1, by have := hm.out; omega⟩
        obtain ⟨b1, o1, hp1, hb1, hc1⟩ := HX.out.1.cell (i := n) (by have := hm.out; have := HL.out; omega)
        obtain ⟨b2, o2, hp2, hb2, hc2⟩ := HY.out.1.cell (i := n) (by have := hm.out; have := HL.out; omega)
        subst hp1 hp2
        have hi0 : (0 : Int) ≤ L - 1 - k := by omega
        have hi1 : (L : Int) - 1 - k < L := by omega
        have hiN : ((L : Int) - 1 - k).toNat = n := by have := hm.out; omega
        have hC := Lib.hid (fun (s t : Int) (hx : x.getD n 0 = s) (hy : y.getD n 0 = t) (hlt : s < t) => wv_lt_of_digit HX.out.2.1 HY.out.2.1 (n := n) hs.out (by rw [hx, hy]; exact hlt))
        have hD := Lib.hid (fun (s t : Int) (hx : x.getD n 0 = s) (hy : y.getD n 0 = t) (hlt : t < s) => wv_lt_of_digit HY.out.2.1 HX.out.2.1 (n := n) (fun i hi => (hs.out i hi).symm) (by rw [hx, hy]; exact hlt))
        have hE := Lib.hid (fun (s t : Int) (hx : x.getD n 0 = s) (hy : y.getD n 0 = t) (he : s = t) => same_more hs.out (hx.trans (he.trans hy.symm)))
        rw [EX.out.1, EX.out.2] at hC
        rw [EX.out.1, EX.out.2] at hD
        generalize x.getD n 0 = s at *
        generalize y.getD n 0 = t at *
        have hC2 := Lib.hid (hC.out s t rfl rfl)
        have hD2 := Lib.hid (hD.out s t rfl rfl)
        have hE2 := Lib.hid (hE.out s t rfl rfl)
        clear hC hD hE hs HX HY
        rcases Int.lt_trichotomy s t with h | rfl | h
        · have hne : ¬ s = t := by omega
          go_wp2_with fail
          go_quiet (fail)
          go_wp2_with fail
          go_quiet ((go_at_call 57; exact quiet_later (sign_same _ _)))
          go_wp2_with fail
          go_ret
          exact ⟨ret_int (by simp [cmpI_lt (hC2.out h)]), by simp only [World.drewN_drewN]; exact ⟨_, rfl⟩⟩
        · go_wp2_with fail
          go_quiet (fail)
          go_wp2_with fail
          go_roundw
          case rel => exact ⟨k + 1, n, _, Lib.hid (by have := hm.out; omega), by omega, by go_num, Lib.hid (hE2.out (by trivial)), rfl⟩
          case measure => simp [intOf]; omega
        · have hne : ¬ s = t := by omega
          go_wp2_with fail
          go_quiet (fail)
          go_wp2_with fail
          go_quiet ((go_at_call 57; exact quiet_later (sign_same _ _)))
          go_wp2_with fail
          go_ret
          exact ⟨ret_int (by rw [cmpI_gt (hD2.out h), decide_eq_false (by omega)]; rfl), by simp only [World.drewN_drewN]; exact ⟨_, rfl⟩⟩
      · have hz := Lib.hid (wv_eq_of_same (fun j => hs.out j (by have := hm.out; omega)))
        rw [EX.out.1, EX.out.2] at hz
        clear hs
        go_wp2_with fail
        go_ret
        exact ⟨ret_int (cmpI_eq hz.out).symm, _, rfl⟩
  · have hr := Lib.hid (cmpI_gt (tidy_len_lt HY.out.2.1 HX.out.2.1 TX.out.1 hgt))
    rw [EX.out.1, EX.out.2] at hr
    have hne : ¬ x.length = y.length := by omega
    go_wp2_with (go_at_call 57; refine (sign_any _ _).mono ?_; rintro e w' ⟨rfl, rfl⟩)
    go_ret
    exact ⟨ret_int (by rw [hr.out, decide_eq_false (by omega)]; rfl), 0, rfl⟩
/-- How many bits: of a trim list the number of those of its last word, and 32 for each of the others. -/
def bitsZ (z : Int) : Nat := if z = 0 then 0 else Nat.log2 z.toNat + 1
theorem bitLenAux_log : ∀ f x : Nat, 0 < x → x < 2 ^ f → Lib.bitLenAux f x = Nat.log2 x + 1
  | 0, x, h0, h => by simp at h; omega
  | f + 1, x, h0, h => by
    have hx : x ≠ 0 := by omega
    simp only [Lib.bitLenAux, if_neg hx]
    by_cases h1 : x = 1
    · subst h1
      have : Lib.bitLenAux f (1 / 2) = 0 := by cases f <;> simp [Lib.bitLenAux]
      rw [this]; decide
    · rw [bitLenAux_log f (x / 2) (by omega) (by rw [Nat.pow_succ] at h; omega), Nat.log2_def x, if_pos (by omega)]; omega
theorem bitLen_log (s : Nat) (h0 : 0 < s) (h : s < 18446744073709551616) : Lib.bitLen s = Nat.log2 s + 1 := bitLenAux_log 64 s h0 h
theorem bitsZ_words {x : List Int} (hd : Wd x) {n : Nat} (hl : x.length = n + 1) (h0 : 0 < x.getD n 0) : (n : Int) * 32 + (Lib.bitLen (x.getD n 0).toNat : Int) = bitsZ (wv x) := by
  have h1 := bitLen_log (x.getD n 0).toNat (by omega) (by have := (hd.getD n).2; omega)
  have h2 : wv x = wvN x n + x.getD n 0 * 4294967296 ^ n := by rw [wv, hl]; rfl
  have h3 := wvN_range hd n
  have hp := q_pos n
  have h4 : 0 < x.getD n 0 * 4294967296 ^ n := Int.mul_pos h0 hp
  have hz : wv x ≠ 0 := by omega
  rw [h1, bitsZ, if_neg hz]
  have hb := Nat.log2_lt (n := (x.getD n 0).toNat) (k := Nat.log2 (x.getD n 0).toNat + 1) (by omega)
  have ha := Nat.log2_self_le (n := (x.getD n 0).toNat) (by omega)
  have hb := hb.1 (by omega)
  generalize hs : x.getD n 0 = s at *
  obtain ⟨S, rfl⟩ := Int.eq_ofNat_of_zero_le (Int.le_of_lt h0)
  obtain ⟨R, hR⟩ := Int.eq_ofNat_of_zero_le h3.1
  rw [hR] at h2 h3
  simp only [Int.toNat_natCast] at *
  have hw : (wv x).toNat = R + S * 2 ^ (32 * n) := by
    have e : (4294967296 : Int) ^ n = ((2 ^ (32 * n) : Nat) : Int) := by rw [Nat.pow_mul]; simp
    rw [h2, e, ← Int.natCast_mul, ← Int.natCast_add, Int.toNat_natCast]
  have hR2 : R < 2 ^ (32 * n) := by
    have e : (4294967296 : Int) ^ n = ((2 ^ (32 * n) : Nat) : Int) := by rw [Nat.pow_mul]; simp
    rw [e] at h3; omega
  have key : Nat.log2 (R + S * 2 ^ (32 * n)) = 32 * n + Nat.log2 S := by
    have hS0 : S ≠ 0 := by omega
    have hP : 0 < 2 ^ (32 * n) := Nat.two_pow_pos _
    have hne : R + S * 2 ^ (32 * n) ≠ 0 := by
      have : 0 < S * 2 ^ (32 * n) := Nat.mul_pos (by omega) hP
      omega
    rw [Nat.log2_eq_iff hne, Nat.pow_add, Nat.pow_add, Nat.pow_add, Nat.pow_one]
    rw [Nat.pow_succ] at hb
    have k1 : 2 ^ (32 * n) * 2 ^ Nat.log2 S ≤ 2 ^ (32 * n) * S := Nat.mul_le_mul_left _ ha
    have k2 : 2 ^ (32 * n) * (S + 1) ≤ 2 ^ (32 * n) * (2 ^ Nat.log2 S * 2) := Nat.mul_le_mul_left _ (by omega)
    rw [Nat.mul_comm S, Nat.mul_assoc]
    rw [Nat.mul_add] at k2
    omega
  rw [hw, key]; omega
set_option maxHeartbeats 1000000 in
theorem bits_any (u : Value) (a : List Int) (w : World) (hu : WList w u a) :
    Calls Tryd.prog 23 #[u] w fun e w' => e = .returned (.int .i64 (bitsZ (wv a))) ∧ w = w' := by
  obtain ⟨p, c, rfl⟩ := hu.shape
  have HU := Lib.hid hu
  have HS := Lib.hid (sig_any p a.length c a w hu.1 hu.2.2)
  clear hu
  go_enter Tryd.func23, Tryd.ntmps23
  go_wp2_with fail
  refine (HS.out).mono ?_; rintro e w' ⟨u1, n, rfl, hc, rfl⟩
  obtain ⟨hx, ex, tx⟩ := hc.wlist HU.out
  generalize a.take n = x at *
  have EX := Lib.hid ex
  have TX := Lib.hid tx
  clear HU HS hc ex tx
  obtain ⟨p1, c1, rfl⟩ := hx.shape
  have HX := Lib.hid hx
  have lx : x.length ≤ 1099511627776 := hx.2.2
  clear hx
  by_cases h0 : x.length = 0
  · have hz := Lib.hid ((TX.out.wzero HX.out.2.1).2 (List.length_eq_zero_iff.1 h0))
    rw [EX.out] at hz
    go_wp2_with fail
    go_ret
    exact ⟨ret_int (by rw [hz.out]; rfl), rfl⟩
  · obtain ⟨n, hn⟩ : ∃ n, x.length = n + 1 := ⟨x.length - 1, by omega⟩
    have hp : 0 < x.getD n 0 := by
      have h1 := TX.out.resolve_left (by intro e; subst e; simp at hn)
      rw [hn, Nat.add_sub_cancel] at h1
      have h2 := HX.out.2.1.getD n
      omega
    have hq := (HX.out.2.1.getD n).2
    have hB := Lib.hid (bitsZ_words HX.out.2.1 hn hp)
    rw [EX.out] at hB
    obtain ⟨b1, o1, hp1, hb1, hc1⟩ := HX.out.1.cell (i := n) (by omega)
    subst hp1
    rw [hn] at HX lx h0
    rw [hn]
    clear hn h0 hb1
    generalize x.getD n 0 = s at *
    have hL := Lib.hid (len32_any s w (by omega) hq)
    have hle : Lib.bitLen s.toNat ≤ 32 := Lib.bitLen_le _ 32 (by omega) (by omega)
    generalize Lib.bitLen s.toNat = l at *
    go_wp2_with fail
    refine (hL.out).mono ?_; rintro e w' ⟨rfl, rfl⟩
    go_wp2_with fail
    go_ret
    exact ⟨ret_int hB.out, rfl⟩
end Go.Proofs.YtpfcacjcikhamaaDoor
