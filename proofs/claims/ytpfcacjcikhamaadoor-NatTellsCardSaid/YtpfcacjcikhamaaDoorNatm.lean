/- What Mul of package nat returns. -/
import Derived.Test.YtpfcacjcikhamaaDoorNatg
namespace Go.Proofs.YtpfcacjcikhamaaDoor
set_option maxRecDepth 100000
open Go.RowKit
set_option linter.unusedVariables false
theorem wvN_set {l : List Int} {j : Nat} {x : Int} (h : j < l.length) (n : Nat) : wvN (l.set j x) n = wvN l n + if j < n then (x - l.getD j 0) * 4294967296 ^ j else 0 := by
  induction n with
  | zero => simp [wvN]
  | succ n ih =>
    rw [wvN, wvN, ih, getD_set h]
    by_cases e : n = j
    · subst e; simp [Int.sub_mul]; omega
    · by_cases hl : j < n
      · have : j < n + 1 := by omega
        simp [hl, this, e]; omega
      · have : ¬ j < n + 1 := by omega
        simp [hl, this, e]
theorem wv_set {l : List Int} {j : Nat} {x : Int} (h : j < l.length) : wv (l.set j x) = wv l + (x - l.getD j 0) * 4294967296 ^ j := by
  rw [wv, List.length_set, wvN_set h, if_pos h]; rfl
/-- The outer loop: the first i digits of a times b; above that noughts. -/
def WMulOut (a b : List Int) (i : Nat) (out : List Int) : Prop := wv out = wvN a i * wv b ∧ Wd out ∧ out.length = a.length + b.length ∧ ∀ j, i + b.length ≤ j → out.getD j 0 = 0
/-- The inner loop. -/
def WMulIn (a b : List Int) (i k : Nat) (out : List Int) (c : Int) : Prop :=
  wv out + c * 4294967296 ^ (i + k) = wvN a i * wv b + a.getD i 0 * wvN b k * 4294967296 ^ i ∧ Wd out ∧ out.length = a.length + b.length ∧ (∀ j, i + b.length ≤ j → out.getD j 0 = 0) ∧ 0 ≤ c ∧ c ≤ 4294967295
theorem WMulOut.enter {a b out : List Int} {i : Nat} (h : WMulOut a b i out) : WMulIn a b i 0 out 0 := by
  obtain ⟨h1, h2, h3, h4⟩ := h
  exact ⟨by simp [wvN, h1], h2, h3, h4, by omega, by omega⟩
theorem wv_replicate (n : Nat) : wv (List.replicate n (0 : Int)) = 0 := by
  have h : wv (List.replicate n (0 : Int)) = wv [] := wv_eq_of_same (fun i => by simp [List.getD, List.getElem?_replicate]; split <;> simp)
  rw [h]; rfl
theorem WMulOut.start (a b : List Int) : WMulOut a b 0 (List.replicate (a.length + b.length) 0) := by
  refine ⟨by simp [wvN, wv_replicate], fun x hx => ?_, by simp, fun j _ => ?_⟩
  · have := List.eq_of_mem_replicate hx; omega
  · simp [List.getD, List.getElem?_replicate]; split <;> simp
theorem wmul_bounds {x y : Int} (h1 : 0 ≤ x) (h2 : x ≤ 4294967295) (h3 : 0 ≤ y) (h4 : y ≤ 4294967295) : 0 ≤ x * y ∧ x * y ≤ 18446744065119617025 := by
  refine ⟨Int.mul_nonneg h1 h3, ?_⟩
  calc x * y ≤ 4294967295 * y := Int.mul_le_mul_of_nonneg_right h2 h3
    _ ≤ 4294967295 * 4294967295 := Int.mul_le_mul_of_nonneg_left h4 (by omega)
theorem WMulIn.step {a b out : List Int} {i k : Nat} {c : Int} (h : WMulIn a b i k out c) (ha : Wd a) (hb : Wd b) (hi : i < a.length) (hk : k < b.length) (o x y : Int) (ho : out.getD (i + k) 0 = o) (hx : a.getD i 0 = x) (hy : b.getD k 0 = y) :
    WMulIn a b i (k + 1) (out.set (i + k) ((x * y + o + c) % 4294967296)) ((x * y + o + c) / 4294967296) := by
  obtain ⟨h1, h2, h3, h4, h5, h6⟩ := h
  have hj : i + k < out.length := by omega
  have o1 := h2.getD (i + k)
  have x1 := ha.getD i
  have y1 := hb.getD k
  rw [ho] at o1
  rw [hx] at x1
  rw [hy] at y1
  have hm := wmul_bounds x1.1 x1.2 y1.1 y1.2
  refine ⟨?_, h2.set (by omega) (by omega), by simp [h3], fun j hj2 => ?_, by omega, by omega⟩
  · have e0 : i + (k + 1) = (i + k) + 1 := by omega
    rw [wv_set hj, ho, wvN, hy, e0, q_succ, hx]
    rw [hx] at h1
    have e1 := wcarry_step (x * y + o + c) (4294967296 ^ (i + k))
    have e2 : (x * y + o + c) * 4294967296 ^ (i + k) = x * y * 4294967296 ^ (i + k) + o * 4294967296 ^ (i + k) + c * 4294967296 ^ (i + k) := by rw [Int.add_mul, Int.add_mul]
    have e3 : ((x * y + o + c) % 4294967296 - o) * 4294967296 ^ (i + k) = (x * y + o + c) % 4294967296 * 4294967296 ^ (i + k) - o * 4294967296 ^ (i + k) := Int.sub_mul _ _ _
    have e4 : x * (wvN b k + y * 4294967296 ^ k) * 4294967296 ^ i = x * wvN b k * 4294967296 ^ i + x * y * 4294967296 ^ (i + k) := by
      rw [Int.mul_add, Int.add_mul, Int.pow_add, Int.mul_comm (4294967296 ^ i : Int) (4294967296 ^ k), ← Int.mul_assoc x y (4294967296 ^ k), Int.mul_assoc (x * y)]
    omega
  · rw [getD_set hj, if_neg (by omega)]; exact h4 j hj2
theorem WMulIn.leave {a b out : List Int} {i : Nat} {c : Int} (h : WMulIn a b i b.length out c) (hi : i < a.length) : WMulOut a b (i + 1) (out.set (i + b.length) c) := by
  obtain ⟨h1, h2, h3, h4, h5, h6⟩ := h
  have hj : i + b.length < out.length := by omega
  refine ⟨?_, h2.set h5 h6, by simp [h3], fun j hj2 => ?_⟩
  · rw [wv_set hj, h4 _ (Nat.le_refl _), wvN]
    have e1 : (c - 0) * 4294967296 ^ (i + b.length) = c * 4294967296 ^ (i + b.length) := by simp
    have e2 : (wvN a i + a.getD i 0 * 4294967296 ^ i) * wv b = wvN a i * wv b + a.getD i 0 * wvN b b.length * 4294967296 ^ i := by
      rw [Int.add_mul, Int.mul_assoc, Int.mul_assoc, Int.mul_comm (4294967296 ^ i : Int)]; rfl
    omega
  · rw [getD_set hj, if_neg (by omega)]; exact h4 j (by omega)
theorem WMulOut.stop {a b out : List Int} (h : WMulOut a b a.length out) : wv out = wv a * wv b := h.1
set_option maxHeartbeats 2000000 in
theorem mulw_any (u v : Value) (a b : List Int) (w : World) (hu : WList w u a) (hv : WList w v b) (la : a.length ≤ 274877906944) (lb : b.length ≤ 274877906944) :
    Calls Tryd.prog 49 #[u, v] w (Fresh w (wv a * wv b) (a.length + b.length)) := by
  obtain ⟨i0, hi, hz0, hz1, hz2⟩ := info_parts Tryd.infoU32
  obtain ⟨p, c, rfl⟩ := hu.shape
  obtain ⟨q, d, rfl⟩ := hv.shape
  have HA := Lib.hid hu
  have HB := Lib.hid hv
  clear hu hv
  go_enter Tryd.func49, Tryd.ntmps49
  go_wp2_with (at_make; refine wpList_make_full _ rfl _ _ 22 rfl w.heap.size 31 i0 (.int .u32 0) 1 Tryd.underlying22 hi hz0 hz1 .i64 .i64 _ _ (a.length + b.length) rfl rfl (by omega) (by omega) (by rw [hz2]; omega) (by unfold maxLen; omega) (by simp) ?_; intro w0 hown hgrow)
  have hF := Lib.hid (wrow_made rfl hown hgrow)
  clear hown hgrow
  go_wp2_with fail
  go_loopw [18] (fun i wr => ∃ (k : Nat) (out : List Int), k ≤ a.length ∧ i = .int .i64 k ∧ Hid (WMulOut a b k out) ∧ Hid (Fill w w.heap.size (a.length + b.length) out wr)) (fun i _ => a.length - (intOf i).toNat)
  case atStart => exact ⟨0, _, Nat.zero_le _, rfl, Lib.hid (WMulOut.start a b), hF⟩
  case round =>
    obtain ⟨k, out, hk, rfl, hO, hS⟩ := hrel
    clear hF
    by_cases hlt : k < a.length
    · obtain ⟨wo, rfl⟩ : ∃ wo : World, wo = wr := ⟨_, rfl⟩
      go_wp2_with fail
      go_loopw [7, 23] (fun c i wr => ∃ (j : Nat) (o2 : List Int) (cr : Int), j ≤ b.length ∧ c = .int .u64 cr ∧ i = .int .i64 j ∧ Hid (WMulIn a b k j o2 cr) ∧ 0 ≤ cr ∧ cr ≤ 4294967295 ∧
          Hid (Fill w w.heap.size (a.length + b.length) o2 wr)) (fun _ i _ => b.length - (intOf i).toNat)
      case atStart => exact ⟨0, out, 0, Nat.zero_le _, rfl, rfl, Lib.hid hO.out.enter, by omega, by omega, hS⟩
      case round =>
        obtain ⟨j, o2, cr, hj, rfl, rfl, hI, cr0, cr1, hT⟩ := hrel
        clear hS hO
        have hlen := Lib.hid hI.out.2.2.1
        by_cases hjl : j < b.length
        · have hkj : k + j < o2.length := by have := hlen.out; omega
          obtain ⟨hc1, hf1⟩ := hT.out.cells hkj
          obtain ⟨pb, po, hp1, hpb, hpa⟩ := HA.out.1.cell hlt
          obtain ⟨qb, qo, hq1, hqb, hqa⟩ := HB.out.1.cell hjl
          subst hp1 hq1
          have hpa := cell_later hT.out.2 hpa
          have hqa := cell_later hT.out.2 hqa
          have ox := hI.out.2.1.getD (k + j)
          have ax := HA.out.2.1.getD k
          have bx := HB.out.2.1.getD j
          have hst := Lib.hid (fun (o x y : Int) (ho : o2.getD (k + j) 0 = o) (hx : a.getD k 0 = x) (hy : b.getD j 0 = y) => hI.out.step HA.out.2.1 HB.out.2.1 hlt hjl o x y ho hx hy)
          generalize o2.getD (k + j) 0 = o at *
          generalize a.getD k 0 = x at *
          generalize b.getD j 0 = y at *
          have hst2 := Lib.hid (hst.out o x y rfl rfl rfl)
          have hTT := Lib.hid (fun (n : Nat) (z : Int) => (hT.out.drewN n).set (k + j) z)
          obtain ⟨o1, o9⟩ := ox
          obtain ⟨m1, m2⟩ := wmul_bounds ax.1 ax.2 bx.1 bx.2
          obtain ⟨x1, x2⟩ := ax
          obtain ⟨y1, y2⟩ := bx
          clear hst hI hT hpb hqb hkj
          have hB1 : (0 : Int) ≤ (k : Int) := by omega
          have hB2 : (k : Int) < (a.length : Int) := by omega
          have hB3 : (0 : Int) ≤ (j : Int) := by omega
          have hB4 : (j : Int) < (b.length : Int) := by omega
          have hB5 : (0 : Int) ≤ (k : Int) + (j : Int) := by omega
          have hB6 : (k : Int) + (j : Int) < (a.length : Int) + (b.length : Int) := by omega
          have e1 : IntKind.i64.wrap ((k : Int) + (j : Int)) = (k : Int) + (j : Int) := IntWalk.i64_in _ (by omega)
          have e5 : ((k : Int) + (j : Int)).toNat = k + j := by omega
          have e6 : IntKind.u64.wrap x = x := by rw [IntKind.wrap_u64]; omega
          have e7 : IntKind.u64.wrap y = y := by rw [IntKind.wrap_u64]; omega
          have e8 : IntKind.u64.wrap o = o := by rw [IntKind.wrap_u64]; omega
          have e2 : IntKind.u64.wrap (x * y) = x * y := by rw [IntKind.wrap_u64]; omega
          have e3 : IntKind.u64.wrap (x * y + o) = x * y + o := by rw [IntKind.wrap_u64]; omega
          have e4 : IntKind.u64.wrap (x * y + o + cr) = x * y + o + cr := by rw [IntKind.wrap_u64]; omega
          go_wp2_with fail
          go_quiet (fail)
          have hs0 : 0 ≤ x * y + o + cr := by omega
          have hs1 : x * y + o + cr ≤ 18446744073709551615 := by omega
          clear e1 e2 e3 e4 e5 e6 e7 e8 hB5 hB6 m1 m2 o1 o9
          generalize x * y + o + cr = t at *
          go_wp2_with fail
          go_roundw
          case rel => exact ⟨j + 1, _, t / 4294967296, by omega, rfl, by go_num, hst2, by omega, by omega, Lib.hid (hTT.out nq (t % 4294967296))⟩
          case measure => simp [intOf]; omega
        · obtain rfl : j = b.length := by omega
          have hO2 := Lib.hid (hI.out.leave hlt)
          have hkj : k + b.length < o2.length := by have := hlen.out; omega
          obtain ⟨hc1, hf1⟩ := hT.out.cells hkj
          have hT2 := Lib.hid (hT.out.set (k + b.length) cr)
          clear hI hT
          go_wp2_with fail
          go_roundw
          case rel => exact ⟨k + 1, _, by omega, by go_num, hO2, hT2⟩
          case measure => simp [intOf]; omega
    · obtain rfl : k = a.length := by omega
      have hlen := hO.out.2.2.1
      have hW := Lib.hid (hS.out.1.wlist hO.out.2.1 (by omega))
      have HS := Lib.hid (sig_any _ _ _ _ _ hW.out.1 (by omega))
      rw [hlen] at HS
      have HL := Lib.hid hlen
      clear hlen hW
      go_wp2_with fail
      refine (HS.out).mono ?_; rintro e w' ⟨u1, n, rfl, hc, rfl⟩
      go_wp2_with fail
      go_ret
      exact fill_end hS.out hO.out.2.1 (by have := HL.out; omega) hO.out.stop (by have := HL.out; omega) hc
end Go.Proofs.YtpfcacjcikhamaaDoor
