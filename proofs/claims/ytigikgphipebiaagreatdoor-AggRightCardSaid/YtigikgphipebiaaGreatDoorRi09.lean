/- Contracts that the law leans on, pruned and merged: Nato Natr. -/
import Derived.Deep.LoopGhost
import Derived.Test.YtigikgphipebiaaGreatDoorRi08
/- What Shl and Shr of package nat return. -/
namespace Go.Proofs.YtigikgphipebiaaGreatDoor
set_option maxRecDepth 100000
open Go.RowKit
set_option linter.unusedVariables false
theorem wvN_set {l : List Int} {j : Nat} {x : Int} (h : j < l.length) (n : Nat) : wvN (l.set j x) n = wvN l n + if j < n then (x - l.getD j 0) * 4294967296 ^ j else 0 := by
  induction n with
  | zero => simp [wvN]
  | succ n ih =>
    rw [wvN, wvN, ih, getD_set h]
    by_cases e : n = j
    · subst e; simp [Int.sub_mul]; omega
    · by_cases hl : j < n
      · have : j < n + 1 := by omega
        simp [hl, this, e]; omega
      · have : ¬ j < n + 1 := by omega
        simp [hl, this, e]
theorem wv_set {l : List Int} {j : Nat} {x : Int} (h : j < l.length) : wv (l.set j x) = wv l + (x - l.getD j 0) * 4294967296 ^ j := by
  rw [wv, List.length_set, wvN_set h, if_pos h]; rfl
/-- The outer loop: the first i digits of a times b; above that noughts. -/
def WMulOut (a b : List Int) (i : Nat) (out : List Int) : Prop := wv out = wvN a i * wv b ∧ Wd out ∧ out.length = a.length + b.length ∧ ∀ j, i + b.length ≤ j → out.getD j 0 = 0
/-- The inner loop. -/
def WMulIn (a b : List Int) (i k : Nat) (out : List Int) (c : Int) : Prop :=
  wv out + c * 4294967296 ^ (i + k) = wvN a i * wv b + a.getD i 0 * wvN b k * 4294967296 ^ i ∧ Wd out ∧ out.length = a.length + b.length ∧ (∀ j, i + b.length ≤ j → out.getD j 0 = 0) ∧ 0 ≤ c ∧ c ≤ 4294967295
theorem WMulOut.enter {a b out : List Int} {i : Nat} (h : WMulOut a b i out) : WMulIn a b i 0 out 0 := by
  obtain ⟨h1, h2, h3, h4⟩ := h
  exact ⟨by simp [wvN, h1], h2, h3, h4, by omega, by omega⟩
theorem wv_replicate (n : Nat) : wv (List.replicate n (0 : Int)) = 0 := by
  have h : wv (List.replicate n (0 : Int)) = wv [] := wv_eq_of_same (fun i => by simp [List.getD, List.getElem?_replicate]; split <;> simp)
  rw [h]; rfl
theorem WMulOut.start (a b : List Int) : WMulOut a b 0 (List.replicate (a.length + b.length) 0) := by
  refine ⟨by simp [wvN, wv_replicate], fun x hx => ?_, by simp, fun j _ => ?_⟩
  · have := List.eq_of_mem_replicate hx; omega
  · simp [List.getD, List.getElem?_replicate]; split <;> simp
theorem wmul_bounds {x y : Int} (h1 : 0 ≤ x) (h2 : x ≤ 4294967295) (h3 : 0 ≤ y) (h4 : y ≤ 4294967295) : 0 ≤ x * y ∧ x * y ≤ 18446744065119617025 := by
  refine ⟨Int.mul_nonneg h1 h3, ?_⟩
  calc x * y ≤ 4294967295 * y := Int.mul_le_mul_of_nonneg_right h2 h3
    _ ≤ 4294967295 * 4294967295 := Int.mul_le_mul_of_nonneg_left h4 (by omega)
theorem WMulIn.step {a b out : List Int} {i k : Nat} {c : Int} (h : WMulIn a b i k out c) (ha : Wd a) (hb : Wd b) (hi : i < a.length) (hk : k < b.length) (o x y : Int) (ho : out.getD (i + k) 0 = o) (hx : a.getD i 0 = x) (hy : b.getD k 0 = y) :
    WMulIn a b i (k + 1) (out.set (i + k) ((x * y + o + c) % 4294967296)) ((x * y + o + c) / 4294967296) := by
  obtain ⟨h1, h2, h3, h4, h5, h6⟩ := h
  have hj : i + k < out.length := by omega
  have o1 := h2.getD (i + k)
  have x1 := ha.getD i
  have y1 := hb.getD k
  rw [ho] at o1
  rw [hx] at x1
  rw [hy] at y1
  have hm := wmul_bounds x1.1 x1.2 y1.1 y1.2
  refine ⟨?_, h2.set (by omega) (by omega), by simp [h3], fun j hj2 => ?_, by omega, by omega⟩
  · have e0 : i + (k + 1) = (i + k) + 1 := by omega
    rw [wv_set hj, ho, wvN, hy, e0, q_succ, hx]
    rw [hx] at h1
    have e1 := wcarry_step (x * y + o + c) (4294967296 ^ (i + k))
    have e2 : (x * y + o + c) * 4294967296 ^ (i + k) = x * y * 4294967296 ^ (i + k) + o * 4294967296 ^ (i + k) + c * 4294967296 ^ (i + k) := by rw [Int.add_mul, Int.add_mul]
    have e3 : ((x * y + o + c) % 4294967296 - o) * 4294967296 ^ (i + k) = (x * y + o + c) % 4294967296 * 4294967296 ^ (i + k) - o * 4294967296 ^ (i + k) := Int.sub_mul _ _ _
    have e4 : x * (wvN b k + y * 4294967296 ^ k) * 4294967296 ^ i = x * wvN b k * 4294967296 ^ i + x * y * 4294967296 ^ (i + k) := by
      rw [Int.mul_add, Int.add_mul, Int.pow_add, Int.mul_comm (4294967296 ^ i : Int) (4294967296 ^ k), ← Int.mul_assoc x y (4294967296 ^ k), Int.mul_assoc (x * y)]
    omega
  · rw [getD_set hj, if_neg (by omega)]; exact h4 j hj2
theorem WMulIn.leave {a b out : List Int} {i : Nat} {c : Int} (h : WMulIn a b i b.length out c) (hi : i < a.length) : WMulOut a b (i + 1) (out.set (i + b.length) c) := by
  obtain ⟨h1, h2, h3, h4, h5, h6⟩ := h
  have hj : i + b.length < out.length := by omega
  refine ⟨?_, h2.set h5 h6, by simp [h3], fun j hj2 => ?_⟩
  · rw [wv_set hj, h4 _ (Nat.le_refl _), wvN]
    have e1 : (c - 0) * 4294967296 ^ (i + b.length) = c * 4294967296 ^ (i + b.length) := by simp
    have e2 : (wvN a i + a.getD i 0 * 4294967296 ^ i) * wv b = wvN a i * wv b + a.getD i 0 * wvN b b.length * 4294967296 ^ i := by
      rw [Int.add_mul, Int.mul_assoc, Int.mul_assoc, Int.mul_comm (4294967296 ^ i : Int)]; rfl
    omega
  · rw [getD_set hj, if_neg (by omega)]; exact h4 j (by omega)
theorem WMulOut.stop {a b out : List Int} (h : WMulOut a b a.length out) : wv out = wv a * wv b := h.1
set_option maxHeartbeats 2000000 in
theorem mulw_any (u v : Value) (a b : List Int) (w : World) (hu : WList w u a) (hv : WList w v b) (la : a.length ≤ 274877906944) (lb : b.length ≤ 274877906944) :
    Calls Tryz.prog 98 #[u, v] w (Fresh w (wv a * wv b) (a.length + b.length)) := by
  obtain ⟨i0, hi, hz0, hz1, hz2⟩ := info_parts Tryz.infoU32
  obtain ⟨p, c, rfl⟩ := hu.shape
  obtain ⟨q, d, rfl⟩ := hv.shape
  have HA := Lib.hid hu
  have HB := Lib.hid hv
  clear hu hv
  go_enter Tryz.func98, Tryz.ntmps98
  go_wp2_with (at_make; refine wpList_make_full _ rfl _ _ 24 rfl w.heap.size 27 i0 (.int .u32 0) 1 Tryz.underlying24 hi hz0 hz1 .i64 .i64 _ _ (a.length + b.length) rfl rfl (by omega) (by omega) (by rw [hz2]; omega) (by unfold maxLen; omega) (by simp) ?_; intro w0 hown hgrow)
  have hF := Lib.hid (wrow_made rfl hown hgrow)
  clear hown hgrow
  go_wp2_with fail
  go_loopw [18] (fun i wr => ∃ (k : Nat) (out : List Int), k ≤ a.length ∧ i = .int .i64 k ∧ Hid (WMulOut a b k out) ∧ Hid (Fill w w.heap.size (a.length + b.length) out wr)) (fun i _ => a.length - (intOf i).toNat)
  case atStart => exact ⟨0, _, Nat.zero_le _, rfl, Lib.hid (WMulOut.start a b), hF⟩
  case round =>
    obtain ⟨k, out, hk, rfl, hO, hS⟩ := hrel
    clear hF
    by_cases hlt : k < a.length
    · obtain ⟨wo, rfl⟩ : ∃ wo : World, wo = wr := ⟨_, rfl⟩
      go_wp2_with fail
      go_loopw [7, 23] (fun c i wr => ∃ (j : Nat) (o2 : List Int) (cr : Int), j ≤ b.length ∧ c = .int .u64 cr ∧ i = .int .i64 j ∧ Hid (WMulIn a b k j o2 cr) ∧ 0 ≤ cr ∧ cr ≤ 4294967295 ∧
          Hid (Fill w w.heap.size (a.length + b.length) o2 wr)) (fun _ i _ => b.length - (intOf i).toNat)
      case atStart => exact ⟨0, out, 0, Nat.zero_le _, rfl, rfl, Lib.hid hO.out.enter, by omega, by omega, hS⟩
      case round =>
        obtain ⟨j, o2, cr, hj, rfl, rfl, hI, cr0, cr1, hT⟩ := hrel
        clear hS hO
        have hlen := Lib.hid hI.out.2.2.1
        by_cases hjl : j < b.length
        · have hkj : k + j < o2.length := by have := hlen.out; omega
          obtain ⟨hc1, hf1⟩ := hT.out.cells hkj
          obtain ⟨pb, po, hp1, hpb, hpa⟩ := HA.out.1.cell hlt
          obtain ⟨qb, qo, hq1, hqb, hqa⟩ := HB.out.1.cell hjl
          subst hp1 hq1
          have hpa := cell_later hT.out.2 hpa
          have hqa := cell_later hT.out.2 hqa
          have ox := hI.out.2.1.getD (k + j)
          have ax := HA.out.2.1.getD k
          have bx := HB.out.2.1.getD j
          have hst := Lib.hid (fun (o x y : Int) (ho : o2.getD (k + j) 0 = o) (hx : a.getD k 0 = x) (hy : b.getD j 0 = y) => hI.out.step HA.out.2.1 HB.out.2.1 hlt hjl o x y ho hx hy)
          generalize o2.getD (k + j) 0 = o at *
          generalize a.getD k 0 = x at *
          generalize b.getD j 0 = y at *
          have hst2 := Lib.hid (hst.out o x y rfl rfl rfl)
          have hTT := Lib.hid (fun (n : Nat) (z : Int) => (hT.out.drewN n).set (k + j) z)
          obtain ⟨o1, o9⟩ := ox
          obtain ⟨m1, m2⟩ := wmul_bounds ax.1 ax.2 bx.1 bx.2
          obtain ⟨x1, x2⟩ := ax
          obtain ⟨y1, y2⟩ := bx
          clear hst hI hT hpb hqb hkj
          have hB1 : (0 : Int) ≤ (k : Int) := by omega
          have hB2 : (k : Int) < (a.length : Int) := by omega
          have hB3 : (0 : Int) ≤ (j : Int) := by omega
          have hB4 : (j : Int) < (b.length : Int) := by omega
          have hB5 : (0 : Int) ≤ (k : Int) + (j : Int) := by omega
          have hB6 : (k : Int) + (j : Int) < (a.length : Int) + (b.length : Int) := by omega
          have e1 : IntKind.i64.wrap ((k : Int) + (j : Int)) = (k : Int) + (j : Int) := IntWalk.i64_in _ (by omega)
          have e5 : ((k : Int) + (j : Int)).toNat = k + j := by omega
          have e6 : IntKind.u64.wrap x = x := by rw [IntKind.wrap_u64]; omega
          have e7 : IntKind.u64.wrap y = y := by rw [IntKind.wrap_u64]; omega
          have e8 : IntKind.u64.wrap o = o := by rw [IntKind.wrap_u64]; omega
          have e2 : IntKind.u64.wrap (x * y) = x * y := by rw [IntKind.wrap_u64]; omega
          have e3 : IntKind.u64.wrap (x * y + o) = x * y + o := by rw [IntKind.wrap_u64]; omega
          have e4 : IntKind.u64.wrap (x * y + o + cr) = x * y + o + cr := by rw [IntKind.wrap_u64]; omega
          go_wp2_with fail
          go_quiet (fail)
          have hs0 : 0 ≤ x * y + o + cr := by omega
          have hs1 : x * y + o + cr ≤ 18446744073709551615 := by omega
          clear e1 e2 e3 e4 e5 e6 e7 e8 hB5 hB6 m1 m2 o1 o9
          generalize x * y + o + cr = t at *
          go_wp2_with fail
          go_roundw
          case rel => exact ⟨j + 1, _, t / 4294967296, by omega, rfl, by go_num, hst2, by omega, by omega, Lib.hid (hTT.out nq (t % 4294967296))⟩
          case measure => simp [intOf]; omega
        · obtain rfl : j = b.length := by omega
          have hO2 := Lib.hid (hI.out.leave hlt)
          have hkj : k + b.length < o2.length := by have := hlen.out; omega
          obtain ⟨hc1, hf1⟩ := hT.out.cells hkj
          have hT2 := Lib.hid (hT.out.set (k + b.length) cr)
          clear hI hT
          go_wp2_with fail
          go_roundw
          case rel => exact ⟨k + 1, _, by omega, by go_num, hO2, hT2⟩
          case measure => simp [intOf]; omega
    · obtain rfl : k = a.length := by omega
      have hlen := hO.out.2.2.1
      have hW := Lib.hid (hS.out.1.wlist hO.out.2.1 (by omega))
      have HS := Lib.hid (sig_any _ _ _ _ _ hW.out.1 (by omega))
      rw [hlen] at HS
      have HL := Lib.hid hlen
      clear hlen hW
      go_wp2_with fail
      refine (HS.out).mono ?_; rintro e w' ⟨u1, n, rfl, hc, rfl⟩
      go_wp2_with fail
      go_ret
      exact fill_end hS.out hO.out.2.1 (by have := HL.out; omega) hO.out.stop (by have := HL.out; omega) hc
set_option maxRecDepth 100000
open Go.RowKit
set_option linter.unusedVariables false
/-- The first i words of a, W words and R bits higher. -/
def RaiseRel (a : List Int) (W R i : Nat) (out : List Int) : Prop :=
  wvN out (i + W + 1) = wvN a i * (2 ^ R * 4294967296 ^ W) ∧ Wd out ∧ out.length = a.length + W + 1 ∧ (∀ j, i + W + 1 ≤ j → out.getD j 0 = 0) ∧ out.getD (i + W) 0 < 2 ^ R
theorem RaiseRel.start (a : List Int) (W R : Nat) : RaiseRel a W R 0 (List.replicate (a.length + W + 1) 0) := by
  have hz : ∀ j, (List.replicate (a.length + W + 1) (0 : Int)).getD j 0 = 0 := fun j => by simp [List.getD, List.getElem?_replicate]; split <;> simp
  refine ⟨?_, Wd.zeros _, by simp, fun j _ => hz j, ?_⟩
  · have := wvN_congr (a := List.replicate (a.length + W + 1) (0 : Int)) (b := []) (n := 0 + W + 1) (fun i _ => by rw [hz]; rfl)
    rw [this]
    have e : ∀ n, wvN [] n = 0 := fun n => by
      induction n with
      | zero => rfl
      | succ n ih => rw [wvN, ih]; simp
    rw [e]; simp [wvN]
  · rw [hz]; exact Int.pow_pos (by decide)
theorem shl_parts (x : Int) (R : Nat) (hR : R < 32) (x0 : 0 ≤ x) (x1 : x ≤ 4294967295) :
    ∃ m h : Nat, IntKind.u64.wrap (x * 2 ^ R) % 4294967296 = ((2 ^ R * m : Nat) : Int) ∧ IntKind.u64.wrap (x * 2 ^ R) / 4294967296 % 4294967296 = (h : Int) ∧ h < 2 ^ R ∧ 2 ^ R * m + 2 ^ R ≤ 4294967296 ∧ x * 2 ^ R = ((2 ^ R * m : Nat) : Int) + 4294967296 * (h : Int) := by
  obtain ⟨X, rfl⟩ := Int.eq_ofNat_of_zero_le x0
  obtain ⟨S, hS⟩ : ∃ S, 32 = R + S := ⟨32 - R, by omega⟩
  have hQ : 4294967296 = 2 ^ R * 2 ^ S := by rw [← Nat.pow_add, ← hS]
  have hP : 0 < 2 ^ R := Nat.two_pow_pos R
  have hP' : 0 < 2 ^ S := Nat.two_pow_pos S
  have e : X = 2 ^ S * (X / 2 ^ S) + X % 2 ^ S := (Nat.div_add_mod X (2 ^ S)).symm
  have hm : X % 2 ^ S < 2 ^ S := Nat.mod_lt _ hP'
  have hh : X / 2 ^ S < 2 ^ R := by
    refine Nat.div_lt_of_lt_mul ?_
    rw [Nat.mul_comm, ← hQ]; omega
  have hx : X * 2 ^ R = 2 ^ R * (X % 2 ^ S) + 4294967296 * (X / 2 ^ S) := by
    conv => lhs; rw [e]
    rw [Nat.add_mul, hQ, Nat.mul_comm (X % 2 ^ S), Nat.add_comm, Nat.mul_comm (2 ^ S) (X / 2 ^ S), Nat.mul_assoc, Nat.mul_comm (2 ^ S) (2 ^ R), Nat.mul_comm (X / 2 ^ S)]
  have h1 : 2 ^ R * (X % 2 ^ S) + 2 ^ R ≤ 4294967296 := by
    have : 2 ^ R * (X % 2 ^ S + 1) ≤ 2 ^ R * 2 ^ S := Nat.mul_le_mul_left _ hm
    rw [Nat.mul_add, ← hQ] at this; omega
  have hr : 2 ^ R ≤ 2 ^ 31 := Nat.pow_le_pow_right (by omega) (by omega)
  refine ⟨X % 2 ^ S, X / 2 ^ S, ?_, ?_, hh, h1, ?_⟩
  all_goals
    have hc : (X : Int) * 2 ^ R = ((X * 2 ^ R : Nat) : Int) := by simp
    rw [hc, hx]
  · rw [IntKind.wrap_u64]; omega
  · rw [IntKind.wrap_u64]; omega
  · omega
theorem RaiseRel.step {a out : List Int} {W R i : Nat} (ha : Wd a) (h : RaiseRel a W R i out) (hi : i < a.length) (hR : R < 32) (x o : Int) (hx : a.getD i 0 = x) (ho : out.getD (i + W) 0 = o) :
    RaiseRel a W R (i + 1) ((out.set (i + W) (bits BinOp.or IntKind.u32 o (IntKind.u64.wrap (x * 2 ^ R) % 4294967296))).set (i + W + 1) (IntKind.u64.wrap (x * 2 ^ R) / 4294967296 % 4294967296)) := by
  obtain ⟨h1, h2, h3, h4, h5⟩ := h
  have hxr := ha.getD i
  have hor := h2.getD (i + W)
  rw [hx] at hxr
  rw [ho] at hor h5
  obtain ⟨m, hi', e1, e2, e3, e4, e5⟩ := shl_parts x R hR hxr.1 hxr.2
  obtain ⟨O, rfl⟩ := Int.eq_ofNat_of_zero_le hor.1
  have hO : O < 2 ^ R := by
    have : ((2 ^ R : Nat) : Int) = (2 : Int) ^ R := by simp
    omega
  have hr : 2 ^ R ≤ 2 ^ 31 := Nat.pow_le_pow_right (by omega) (by omega)
  rw [e1, e2, or_sum32' m O R hO (by omega)]
  have hL : i + W < out.length := by omega
  refine ⟨?_, (h2.set (by omega) (by omega)).set (by omega) (by omega), by simp; omega, fun j hj => ?_, ?_⟩
  · rw [show i + 1 + W + 1 = (i + W + 1) + 1 from by omega, wvN_set_succ (by simp; omega), wvN_set_succ hL]
    rw [wvN, ho] at h1
    rw [wvN, hx, q_succ, Int.add_mul, ← h1]
    have k1 : x * 4294967296 ^ i * (2 ^ R * 4294967296 ^ W) = x * 2 ^ R * 4294967296 ^ (i + W) := by
      rw [Int.pow_add, Int.mul_assoc, Int.mul_assoc, ← Int.mul_assoc (4294967296 ^ i : Int), Int.mul_comm (4294967296 ^ i : Int) (2 ^ R), Int.mul_assoc]
    rw [k1, e5]
    have k2 : ((2 ^ R * m + O : Nat) : Int) * 4294967296 ^ (i + W) = ((2 ^ R * m : Nat) : Int) * 4294967296 ^ (i + W) + (O : Int) * 4294967296 ^ (i + W) := by rw [Int.natCast_add, Int.add_mul]
    have k3 : (((2 ^ R * m : Nat) : Int) + 4294967296 * (hi' : Int)) * 4294967296 ^ (i + W) = ((2 ^ R * m : Nat) : Int) * 4294967296 ^ (i + W) + (hi' : Int) * (4294967296 ^ (i + W) * 4294967296) := by
      rw [Int.add_mul, Int.mul_comm 4294967296 (hi' : Int), Int.mul_assoc, Int.mul_comm (4294967296 : Int) (4294967296 ^ (i + W))]
    omega
  · rw [getD_set_other (by omega), getD_set_other (by omega)]; exact h4 j (by omega)
  · rw [show i + 1 + W = i + W + 1 from by omega, getD_set_self (by simp; omega)]
    have : ((2 ^ R : Nat) : Int) = (2 : Int) ^ R := by simp
    omega
theorem RaiseRel.stop {a out : List Int} {W R : Nat} (h : RaiseRel a W R a.length out) : wv out = wv a * (2 ^ R * 4294967296 ^ W) ∧ Wd out ∧ out.length = a.length + W + 1 := by
  obtain ⟨h1, h2, h3, h4, h5⟩ := h
  refine ⟨?_, h2, h3⟩
  rw [← wvN_past out (n := a.length + W + 1) (by omega), h1]; rfl
/-- A row that was filled, noughts at its end and all. -/
def Raised (w : World) (z : Int) (L : Nat) (e : Ending) (w' : World) : Prop :=
  ∃ out, e = .returned (.slice (some ⟨w.heap.size, 0, none⟩) L L) ∧ Fill w w.heap.size L out w' ∧ Wd out ∧ out.length = L ∧ wv out = z
set_option maxHeartbeats 2000000 in
theorem raise_any (u : Value) (a : List Int) (w : World) (hu : WList w u a) (la : a.length ≤ 274877906944) (n W R : Nat) (hn : n = 32 * W + R) (hR : R < 32) (hW : W ≤ 1000000) :
    Calls Tryz.prog 233 #[u, .int .i64 n] w (Raised w (wv a * (2 ^ R * 4294967296 ^ W)) (a.length + W + 1)) := by
  obtain ⟨i0, hi, hz0, hz1, hz2⟩ := info_parts Tryz.infoU32
  obtain ⟨p, c, rfl⟩ := hu.shape
  have HA := Lib.hid hu
  clear hu
  have hq : (n : Int) / 32 = (W : Int) := by omega
  have hr : (n : Int) % 32 = (R : Int) := by omega
  have hn0 : n ≤ 40000000 := by omega
  clear hn
  go_enter Tryz.func233, Tryz.ntmps233
  go_wp2_with (at_make; refine wpList_make_full _ rfl _ _ 24 rfl w.heap.size 27 i0 (.int .u32 0) 1 Tryz.underlying24 hi hz0 hz1 .i64 .i64 _ _ (a.length + W + 1) rfl rfl (by omega) (by omega) (by rw [hz2]; omega) (by unfold maxLen; omega) (by simp) ?_; intro w0 hown hgrow)
  have hF := Lib.hid (wrow_made rfl hown hgrow)
  clear hown hgrow
  go_wp2_with fail
  go_loopw [22] (fun i wr => ∃ (k : Nat) (out : List Int), k ≤ a.length ∧ i = .int .i64 k ∧ Hid (RaiseRel a W R k out) ∧ Hid (Fill w w.heap.size (a.length + W + 1) out wr)) (fun i _ => a.length - (intOf i).toNat)
  case atStart => exact ⟨0, _, Nat.zero_le _, rfl, Lib.hid (RaiseRel.start a W R), hF⟩
  case round =>
    obtain ⟨k, out, hk, rfl, hO, hS⟩ := hrel
    clear hF
    have hlen := Lib.hid hO.out.2.2.1
    clear hq hr
    by_cases hlt : k < a.length
    · obtain ⟨ho1, ho2⟩ := hS.out.cells (j := k + W) (by have := hlen.out; omega)
      obtain ⟨hh1, hh2⟩ := hS.out.cells (j := k + W + 1) (by have := hlen.out; omega)
      obtain ⟨pb, po, hp1, hpb, hpa⟩ := HA.out.1.cell hlt
      subst hp1
      have hpa := cell_later hS.out.2 hpa
      have ox := hO.out.2.1.getD (k + W)
      have ax := HA.out.2.1.getD k
      have hst := Lib.hid (fun (x o : Int) (hx : a.getD k 0 = x) (ho : out.getD (k + W) 0 = o) => hO.out.step HA.out.2.1 hlt hR x o hx ho)
      generalize a.getD k 0 = x at *
      generalize out.getD (k + W) 0 = o at *
      have hst2 := Lib.hid (hst.out x o rfl rfl)
      have hSS := Lib.hid (fun (y z : Int) => (hS.out.set (k + W) y).set (k + W + 1) z)
      clear hst hO hS hpb
      obtain ⟨x1, x2⟩ := ax
      obtain ⟨o1, o9⟩ := ox
      have hB5 : (0 : Int) ≤ (k : Int) + (W : Int) := by omega
      have hB6 : (k : Int) + (W : Int) < (a.length : Int) + (W : Int) + 1 := by omega
      have e5 : ((k : Int) + (W : Int)).toNat = k + W := by omega
      have e6 : ((k : Int) + (W : Int) + 1).toNat = k + W + 1 := by omega
      go_wp2_with fail
      go_roundw
      case rel => exact ⟨k + 1, _, by omega, by go_num, hst2, Lib.hid (hSS.out _ _)⟩
      case measure => simp [intOf]; omega
    · obtain rfl : k = a.length := by omega
      have hE := Lib.hid hO.out.stop
      clear hO
      go_wp2_with fail
      go_ret
      exact ⟨out, rfl, hS.out, hE.out.2.1, hE.out.2.2, hE.out.1⟩
set_option maxRecDepth 100000
open Go.RowKit
set_option linter.unusedVariables false
set_option maxHeartbeats 1000000 in
theorem shl_any (u : Value) (a : List Int) (w : World) (hu : WList w u a) (la : a.length ≤ 274877906944) (n : Nat) (hn : n ≤ 8192) :
    Calls Tryz.prog 204 #[u, .int .i64 n] w (FreshOk w (wv a * 2 ^ n) (a.length + n / 32 + 1)) := by
  have hz : wv a * (2 ^ (n % 32) * 4294967296 ^ (n / 32)) = wv a * 2 ^ n := by
    rw [pow32, ← Int.pow_add]; congr 2; omega
  have HR := Lib.hid (raise_any u a w hu la n (n / 32) (n % 32) (by omega) (by omega) (by omega))
  rw [hz] at HR
  have hd : n / 32 ≤ 1000 := by omega
  generalize n / 32 = W at *
  have h1 : ¬ (n : Int) < 0 := by omega
  have h2 : ¬ 8192 < (n : Int) := by omega
  clear hz hu
  go_enter Tryz.func204, Tryz.ntmps204
  go_wp2_with fail
  refine (HR.out).mono ?_; rintro e w1 ⟨out, rfl, hF, hd1, hl, hv⟩
  have hW := Lib.hid (hF.1.wlist hd1 (by omega))
  have HS := Lib.hid (sig_any _ _ _ _ _ hW.out.1 (by omega))
  rw [hl] at HS
  have HF := Lib.hid hF
  have HD := Lib.hid hd1
  have HL := Lib.hid hl
  have HV := Lib.hid hv
  clear hF hd1 hl hv hW
  go_wp2_with fail
  refine (HS.out).mono ?_; rintro e w' ⟨u1, m, rfl, hc, rfl⟩
  rw [← HL.out] at hc
  go_wp2_with fail
  go_ret2
  exact ⟨_, rfl, fill_end HF.out HD.out (by have := HL.out; omega) HV.out (by have := HL.out; omega) (by rw [HL.out] at hc; exact hc)⟩
def ShrRel (x : List Int) (R i : Nat) (out : List Int) : Prop := wvN out i = wv x / 2 ^ R % 4294967296 ^ i ∧ Wd out ∧ out.length = x.length
theorem ShrRel.start (x : List Int) (R : Nat) : ShrRel x R 0 (List.replicate x.length 0) := ⟨by simp [wvN, Int.emod_one], Wd.zeros _, by simp⟩
theorem emod_succ (z : Int) (h0 : 0 ≤ z) (i : Nat) : z % 4294967296 ^ (i + 1) = z % 4294967296 ^ i + z / 4294967296 ^ i % 4294967296 * 4294967296 ^ i := by
  have hp := q_pos i
  have h1 := Int.emod_add_mul_ediv z (4294967296 ^ i)
  have h2 := Int.emod_add_mul_ediv (z / 4294967296 ^ i) 4294967296
  have h3 := Int.emod_nonneg z (show (4294967296 : Int) ^ i ≠ 0 by omega)
  have h4 := Int.emod_lt_of_pos z hp
  have hq0 : 0 ≤ z / 4294967296 ^ i := Int.ediv_nonneg h0 (by omega)
  generalize hA : z % 4294967296 ^ i = A at *
  generalize hB : z / 4294967296 ^ i = B at *
  have h5 : 0 ≤ B % 4294967296 ∧ B % 4294967296 ≤ 4294967295 := by omega
  generalize hC : B % 4294967296 = C at *
  generalize hD : B / 4294967296 = D at *
  rw [q_succ]
  generalize hP : (4294967296 : Int) ^ i = P at *
  have e : z = (A + C * P) + (P * 4294967296) * D := by
    rw [← h1, ← h2, Int.mul_add, Int.mul_comm P C, Int.mul_assoc]; omega
  have k1 : C * P ≤ 4294967295 * P := Int.mul_le_mul_of_nonneg_right h5.2 (by omega)
  have k2 : 0 ≤ C * P := Int.mul_nonneg h5.1 (by omega)
  rw [e, Int.add_mul_emod_self_left, Int.emod_eq_of_lt (by omega) (by omega)]
theorem wv_nonneg {x : List Int} (hd : Wd x) : 0 ≤ wv x := (wv_range hd).1
theorem wv_div (x : List Int) (hd : Wd x) (i : Nat) (hi : i ≤ x.length) : wv x / 4294967296 ^ i = wv (x.drop i) := by
  have h := wv_split x hi
  have h1 := wvN_range hd i
  rw [h, Int.add_mul_ediv_left _ _ (by have := q_pos i; omega), Int.ediv_eq_zero_of_lt h1.1 h1.2]; omega
theorem shr_word {x : List Int} (hd : Wd x) {i R : Nat} (hi : i < x.length) (hR : R < 32) (s y : Int) (hs : x.getD i 0 = s) (hy : x.getD (i + 1) 0 = y) :
    wv x / 2 ^ R / 4294967296 ^ i % 4294967296 = (y * 4294967296 + s) / 2 ^ R % 4294967296 := by
  have hP : (0 : Int) < 2 ^ R := Int.pow_pos (by decide)
  rw [Int.ediv_ediv_of_nonneg (by omega), Int.mul_comm, ← Int.ediv_ediv_of_nonneg (by have := q_pos i; omega), wv_div x hd i (by omega)]
  have e1 := wv_head (a := x.drop i) (by rw [List.length_drop]; omega)
  have e2 : (x.drop i).getD 0 0 = s := by rw [← hs]; simp [List.getD]
  rw [e2] at e1
  have e3 : ∃ t : Int, wv (x.drop i) = (y * 4294967296 + s) + 2 ^ R * (4294967296 * t) := by
    obtain ⟨S, hS⟩ : ∃ S, 32 = R + S := ⟨32 - R, by omega⟩
    have hQ : (4294967296 : Int) = 2 ^ R * 2 ^ S := by rw [← Int.pow_add, ← hS]; rfl
    by_cases hl : i + 1 < x.length
    · have e4 := wv_head (a := (x.drop i).drop 1) (by rw [List.length_drop, List.length_drop]; omega)
      have e5 : ((x.drop i).drop 1).getD 0 0 = y := by rw [← hy]; simp [List.getD]
      rw [e5] at e4
      refine ⟨2 ^ S * wv (((x.drop i).drop 1).drop 1), ?_⟩
      rw [e1, e4]
      have e6 : 2 ^ R * (4294967296 * (2 ^ S * wv (((x.drop i).drop 1).drop 1))) = 4294967296 * (4294967296 * wv (((x.drop i).drop 1).drop 1)) := by
        conv => rhs; rw [hQ]
        conv => lhs; rw [hQ]
        simp only [Int.mul_assoc, Int.mul_left_comm]
      rw [e6]; omega
    · have e4 : (x.drop i).drop 1 = [] := by rw [List.drop_drop]; exact List.drop_eq_nil_of_le (by omega)
      rw [e4] at e1
      have hy0 : y = 0 := by rw [← hy]; exact getD_past (by omega)
      exact ⟨0, by rw [e1, wv_nil, hy0]; omega⟩
  obtain ⟨t, ht⟩ := e3
  rw [ht, Int.add_mul_ediv_left _ _ (by omega), Int.add_mul_emod_self_left]
theorem ShrRel.step {x out : List Int} {R i : Nat} (hd : Wd x) (h : ShrRel x R i out) (hi : i < x.length) (hR : R < 32) (s y : Int) (hs : x.getD i 0 = s) (hy : x.getD (i + 1) 0 = y) :
    ShrRel x R (i + 1) (out.set i ((y * 4294967296 + s) / 2 ^ R % 4294967296)) := by
  obtain ⟨h1, h2, h3⟩ := h
  refine ⟨?_, h2.set (by omega) (by omega), by simpa using h3⟩
  have hP : (0 : Int) < 2 ^ R := Int.pow_pos (by decide)
  rw [wvN_set_succ (by omega), h1, emod_succ _ (Int.ediv_nonneg (wv_nonneg hd) (by omega)), shr_word hd hi hR s y hs hy]
theorem ShrRel.stop {x out : List Int} {R : Nat} (hd : Wd x) (h : ShrRel x R x.length out) : wv out = wv x / 2 ^ R := by
  obtain ⟨h1, h2, h3⟩ := h
  have hP : (0 : Int) < 2 ^ R := Int.pow_pos (by decide)
  have hr := wv_range hd
  have h4 : wv x / 2 ^ R ≤ wv x := Int.ediv_le_self _ hr.1
  have h5 : 0 ≤ wv x / 2 ^ R := Int.ediv_nonneg hr.1 (by omega)
  rw [← wvN_past out (n := x.length) (by omega), h1, Int.emod_eq_of_lt h5 (by omega)]
theorem Ints.dropped {k : IntKind} {w : World} {zs : List Int} {b off L cap W : Nat} (h : Ints k w (.slice (some ⟨b, off, none⟩) (W + L) cap) zs) (hL : zs.length = W + L) : Ints k w (.slice (some ⟨b, off + W, none⟩) L (cap - W)) (zs.drop W) := by
  obtain ⟨a, cap', e, hc, ha⟩ := h
  simp only [Value.slice.injEq] at e
  obtain ⟨rfl, -, rfl⟩ := e
  have hl : (zs.drop W).length = L := by rw [List.length_drop]; omega
  refine ⟨_, _, by rw [hl], by omega, ?_⟩
  rcases ha with h | ⟨b', off', e, hb, hcell⟩
  · left; rw [h]; simp
  · simp only [Option.some.injEq, Addr.mk.injEq, and_true] at e
    obtain ⟨rfl, rfl⟩ := e
    refine .inr ⟨b, off + W, rfl, hb, fun i hi => ?_⟩
    rw [hl] at hi
    have := hcell (W + i) (by omega)
    rw [← Nat.add_assoc] at this
    rw [this]; simp [List.getD]
theorem shr_zero {a : List Int} (hd : Wd a) {N : Nat} (hN : a.length ≤ N / 32) : wv a / 2 ^ N = 0 := by
  have hr := wv_range hd
  have h1 : (4294967296 : Int) ^ a.length ≤ 2 ^ N := by
    rw [pow32]
    have := Nat.pow_le_pow_right (n := 2) (by decide) (show a.length * 32 ≤ N by omega)
    have e1 : ((2 ^ (a.length * 32) : Nat) : Int) = (2 : Int) ^ (a.length * 32) := by simp
    have e2 : ((2 ^ N : Nat) : Int) = (2 : Int) ^ N := by simp
    omega
  exact Int.ediv_eq_zero_of_lt hr.1 (by omega)
theorem shr_split {a : List Int} (hd : Wd a) {N W R : Nat} (hN : N = 32 * W + R) (hW : W ≤ a.length) : wv (a.drop W) / 2 ^ R = wv a / 2 ^ N := by
  rw [← wv_div a hd W hW, Int.ediv_ediv_of_nonneg (by have := q_pos W; omega), pow32, ← Int.pow_add]
  congr 2; omega
set_option maxHeartbeats 1000000 in
theorem shr_any (u : Value) (a : List Int) (w : World) (hu : WList w u a) (la : a.length ≤ 274877906944) (n : Int) (N : Nat) (hn : max n 0 = (N : Int)) (hN : N ≤ 9223372036854775807) :
    Calls Tryz.prog 238 #[u, .int .i64 n] w (Fresh w (wv a / 2 ^ N) a.length) := by
  obtain ⟨i0, hi, hz0, hz1, hz2⟩ := info_parts Tryz.infoU32
  have hx : ∃ W R : Nat, N = 32 * W + R ∧ R < 32 := ⟨N / 32, N % 32, by omega, by omega⟩
  obtain ⟨W, R, hW, hR⟩ := hx
  have hq : (N : Int) / 32 = (W : Int) := by omega
  have hr : (N : Int) % 32 = (R : Int) := by omega
  have hNW := Lib.hid hW
  have HU := Lib.hid hu
  by_cases hl : a.length ≤ W
  · have HZ := Lib.hid (shr_zero hu.2.1 (N := N) (by omega))
    obtain ⟨p, c, rfl⟩ := hu.shape
    clear hu hW
    go_enter Tryz.func238, Tryz.ntmps238
    go_wp2_with fail
    go_ret
    exact ⟨_, [], rfl, World.ownsRow_nil _ _ _ _, Wd.nil, .inl rfl, by rw [HZ.out]; rfl, Nat.zero_le _, Below.refl _ _⟩
  · obtain ⟨L, hL⟩ : ∃ L, a.length = W + L := ⟨a.length - W, by omega⟩
    obtain ⟨b, off, cap, rfl⟩ : ∃ b off cap, u = .slice (some ⟨b, off, none⟩) (W + L) cap := by
      obtain ⟨p, c, rfl⟩ := hu.shape
      obtain ⟨b, off, hp, _⟩ := hu.1.cell (i := 0) (by omega)
      exact ⟨b, off, c, by rw [hp, hL]⟩
    have hcap : W + L ≤ cap := by
      obtain ⟨_, _, e, h, _⟩ := hu.1
      simp only [Value.slice.injEq] at e
      omega
    have hI := hu.1.dropped hL
    have hD := hu.2.1.drop W
    have hlx : (a.drop W).length = L := by rw [List.length_drop]; omega
    have hzz := Lib.hid (shr_split hu.2.1 hW (by omega))
    have hm : L ≤ a.length := by omega
    have lL : L ≤ 274877906944 := by omega
    have hL0 : 0 < L := by omega
    have hcp : L ≤ cap - W := by omega
    have hcw : (W : Int) ≤ (cap : Int) := by omega
    have hm := Lib.hid hm
    generalize a.drop W = x at *
    have HX := Lib.hid (And.intro hI hD)
    have HL := Lib.hid hlx
    have hWL : decide ((W : Int) + (L : Int) ≤ (W : Int)) = false := by simp; omega
    have hWb : W + L ≤ 274877906944 := by omega
    clear hu hL hl hI hD hlx HU hW
    go_enter Tryz.func238, Tryz.ntmps238
    go_wp2_with (at_make; refine wpList_make_full _ rfl _ _ 24 rfl w.heap.size 27 i0 (.int .u32 0) 1 Tryz.underlying24 hi hz0 hz1 .i64 .i64 _ _ L rfl rfl (by omega) (by omega) (by rw [hz2]; omega) (by unfold maxLen; omega) (by simp) ?_; intro w0 hown hgrow)
    have hF := wrow_made rfl hown hgrow
    have hF := Lib.hid hF
    clear hown hgrow
    go_wp2_with fail
    have lx := Lib.hid HL.out
    go_loopw [28] (fun i wr => ∃ (k : Nat) (out : List Int), k ≤ L ∧ i = .int .i64 k ∧ Hid (ShrRel x R k out) ∧ Hid (Fill w w.heap.size L out wr)) (fun i _ => L - (intOf i).toNat)
    case atStart => exact ⟨0, _, Nat.zero_le _, rfl, Lib.hid (by have := ShrRel.start x R; rwa [HL.out] at this), hF⟩
    case round =>
      obtain ⟨k, out, hk, rfl, hO, hS⟩ := hrel
      clear hF hq hr
      have hlen := Lib.hid (hO.out.2.2.trans HL.out)
      by_cases hlt : k < L
      · obtain ⟨ho1, ho2⟩ := hS.out.cells (j := k) (by have := hlen.out; omega)
        obtain ⟨b1, o1, hp1, hb1, hc1⟩ := HX.out.1.cell (i := k) (by have := HL.out; omega)
        simp only [Option.some.injEq, Addr.mk.injEq, and_true] at hp1
        obtain ⟨rfl, rfl⟩ := hp1
        have hc1 := cell_later hS.out.2 hc1
        have dx := HX.out.2.getD k
        have dy := HX.out.2.getD (k + 1)
        have hst := Lib.hid (fun (s y : Int) (hs : x.getD k 0 = s) (hy : x.getD (k + 1) 0 = y) => hO.out.step HX.out.2 (by have := HL.out; omega) hR s y hs hy)
        have hSS := Lib.hid (fun (z : Int) => hS.out.set k z)
        by_cases hyl : k + 1 < L
        · obtain ⟨b2, o2, hp2, hb2, hc2⟩ := HX.out.1.cell (i := k + 1) (by have := HL.out; omega)
          simp only [Option.some.injEq, Addr.mk.injEq, and_true] at hp2
          obtain ⟨rfl, rfl⟩ := hp2
          have hc2 := cell_later hS.out.2 hc2
          generalize x.getD k 0 = s at *
          generalize x.getD (k + 1) 0 = y at *
          have hst2 := Lib.hid (hst.out s y rfl rfl)
          have hor := or_words' y s dy.1 dy.2 dx.1 dx.2
          have hs1 : 0 ≤ y * 4294967296 + s := by omega
          obtain ⟨s0, s9⟩ := dx
          obtain ⟨y0, y9⟩ := dy
          clear hst hO hS hb1 hb2
          go_wp2_with fail
          go_roundw
          case rel => exact ⟨k + 1, _, by omega, by go_num, hst2, Lib.hid (hSS.out _)⟩
          case measure => simp [intOf]; omega
        · have hy0 : x.getD (k + 1) 0 = 0 := getD_past (by have := HL.out; omega)
          generalize x.getD k 0 = s at *
          have hst2 := Lib.hid (hst.out s 0 rfl hy0)
          rw [Int.zero_mul, Int.zero_add] at hst2
          obtain ⟨s0, s9⟩ := dx
          clear hst hO hS hb1 hy0 dy
          go_wp2_with fail
          go_roundw
          case rel => exact ⟨k + 1, _, by omega, by go_num, hst2, Lib.hid (hSS.out _)⟩
          case measure => simp [intOf]; omega
      · obtain rfl : k = L := by omega
        have hE := Lib.hid (ShrRel.stop HX.out.2 (by rw [HL.out]; exact hO.out))
        have hD := Lib.hid hO.out.2.1
        have hW2 := Lib.hid (hS.out.1.wlist hO.out.2.1 (by have := hlen.out; omega))
        have HS := Lib.hid (sig_any _ _ _ _ _ hW2.out.1 (by have := hlen.out; omega))
        rw [hlen.out] at HS
        clear hO hW2
        go_wp2_with fail
        refine (HS.out).mono ?_; rintro e w' ⟨u1, m, rfl, hc, rfl⟩
        go_wp2_with fail
        go_ret
        exact fill_end hS.out hD.out (by have := hlen.out; omega) (hE.out.trans hzz.out) (by have := hlen.out; have := hm.out; omega) hc
end Go.Proofs.YtigikgphipebiaaGreatDoor
/- What Root of package nat returns, where Div answers as it should. -/
namespace Go.Proofs.YtigikgphipebiaaGreatDoor
set_option maxRecDepth 100000
open Go.RowKit
set_option linter.unusedVariables false
/-- Nothing but block g has changed. -/
def Only (g : Nat) (w w' : World) : Prop := w'.os = w.os ∧ w'.tape = w.tape ∧ w'.output = w.output ∧ w'.heap.size = w.heap.size ∧ ∀ k, k ≠ g → w'.heap[k]? = w.heap[k]?
theorem Only.refl (g : Nat) (w : World) : Only g w w := ⟨rfl, rfl, rfl, rfl, fun _ _ => rfl⟩
theorem Only.below {g B : Nat} {w w' : World} (h : Only g w w') (hB : B ≤ g) : Below B w w' := ⟨h.1, h.2.1, h.2.2.1, by rw [h.2.2.2.1]; exact Nat.le_refl _, fun k hk => h.2.2.2.2 k (by omega)⟩
theorem Only.drewN {g : Nat} {w w' : World} (h : Only g w w') (n : Nat) : Only g w (w'.drewN n) := by
  have hb := below_drewN (Below.refl w'.heap.size w') n
  refine ⟨hb.os.trans h.1, hb.tape.trans h.2.1, hb.output.trans h.2.2.1, ?_, fun k hk => ?_⟩
  · show (w'.drewN n).heap.size = _
    rw [show (w'.drewN n).heap = w'.heap from World.heap_drewN _ _]; exact h.2.2.2.1
  · rw [show (w'.drewN n).heap = w'.heap from World.heap_drewN _ _]; exact h.2.2.2.2 k hk
theorem Only.set {g : Nat} {w w' : World} (h : Only g w w') (j : Nat) (x : Value) : Only g w (w'.setCell ⟨g, j, none⟩ x) := by
  have hb := (Below.refl 0 w').setCell (p := ⟨g, j, none⟩) (Nat.zero_le _) x
  refine ⟨hb.os.trans h.1, hb.tape.trans h.2.1, hb.output.trans h.2.2.1, ?_, fun k hk => ?_⟩
  · rw [← h.2.2.2.1]; simp [World.setCell]
  · rw [Below.heap_setCell _ _ _ _ (by simpa using hk)]; exact h.2.2.2.2 k hk
theorem Only.row {g B E : Nat} {w w' : World} {v : Value} {n : Nat} {xs : List Value} (h : Only g w w') (hr : w.ownsRow B E 1 v n xs) (hne : v.ownBlock ≠ some g) : w'.ownsRow B E 1 v n xs := by
  obtain ⟨h1, h2⟩ := hr
  refine ⟨h1, ?_⟩
  rcases h2 with h2 | ⟨g', cap, cur, rfl, q1, q2, q3⟩
  · exact .inl h2
  · refine .inr ⟨g', cap, cur, rfl, q1, ?_, q3⟩
    rw [h.2.2.2.2 g' (by intro e; subst e; exact hne rfl)]; exact q2
def WDivRel (a : List Int) (d : Int) (m : Nat) (out : List Int) (r : Int) : Prop :=
  ∃ X Y, wv a = wvN a m + 4294967296 ^ m * X ∧ wv out = wvN a m + 4294967296 ^ m * Y ∧ X = d * Y + r ∧ 0 ≤ r ∧ r < d ∧ Wd out ∧ out.length = a.length ∧ ∀ j, j < m → out.getD j 0 = a.getD j 0
theorem WDivRel.start {a : List Int} {d : Int} (ha : Wd a) (hd : 0 < d) : WDivRel a d a.length a 0 :=
  ⟨0, 0, by simp [wv], by simp [wv], by simp, by omega, hd, ha, rfl, fun _ _ => rfl⟩
theorem WDivRel.step {a out : List Int} {d r : Int} {m : Nat} (h : WDivRel a d (m + 1) out r) (hm : m < a.length) (hd : d ≤ 4294967295) (y : Int) (hy : out.getD m 0 = y) :
    WDivRel a d m (out.set m ((r * 4294967296 + y) / d)) ((r * 4294967296 + y) % d) := by
  obtain ⟨X, Y, e1, e2, e3, e4, e5, e6, e7, e8⟩ := h
  have hya := e8 m (by omega)
  have hyr := e6.getD m
  rw [hy] at hya hyr
  obtain ⟨q0, q1, r0, r1⟩ := div_word_bounds e4 e5 hyr.1 hyr.2 hd
  have hde := Int.emod_add_mul_ediv (r * 4294967296 + y) d
  generalize (r * 4294967296 + y) / d = q at *
  generalize (r * 4294967296 + y) % d = s at *
  refine ⟨y + 4294967296 * X, q + 4294967296 * Y, ?_, ?_, ?_, r0, r1, e6.set q0 q1, by simpa using e7, fun j hj => ?_⟩
  · rw [e1, wvN, ← hya, q_succ, Int.mul_add, Int.mul_comm y, Int.mul_assoc]; omega
  · rw [wv_set (by omega), e2, wvN, ← hya, hy, q_succ, Int.mul_add, Int.sub_mul, Int.mul_comm y, Int.mul_comm q, Int.mul_assoc]; omega
  · rw [e3]
    have k1 : 4294967296 * (d * Y + r) = d * (4294967296 * Y) + r * 4294967296 := by
      rw [Int.mul_add, ← Int.mul_assoc, Int.mul_comm 4294967296 d, Int.mul_assoc, Int.mul_comm 4294967296 r]
    have k2 : d * (q + 4294967296 * Y) = d * q + d * (4294967296 * Y) := Int.mul_add _ _ _
    omega
  · rw [getD_set_other (by omega)]; exact e8 j (by omega)
theorem WDivRel.stop {a out : List Int} {d r : Int} (h : WDivRel a d 0 out r) : wv out = wv a / d ∧ r = wv a % d ∧ Wd out ∧ out.length = a.length := by
  obtain ⟨X, Y, e1, e2, e3, e4, e5, e6, e7, e8⟩ := h
  simp [wvN] at e1 e2
  have := (Int.ediv_emod_unique (a := wv a) (b := d) (r := r) (q := wv out) (by omega)).2 ⟨by rw [e1, e2, e3]; omega, e4, e5⟩
  exact ⟨this.1.symm, this.2.symm, e6, e7⟩
set_option maxRecDepth 100000
open Go.RowKit
set_option linter.unusedVariables false
theorem IsNat.own {w : World} {B : Nat} {v : Value} {a : List Int} (h : w.ownsRow B 27 1 v a.length (a.map (Value.int .u32))) (hd : Wd a) (ht : Tidy a) (hl : a.length ≤ 1099511627776) : IsNat w v (wv a) := ⟨a, own_wlist h hd hl, ht, rfl⟩
set_option maxRecDepth 100000
open Go.RowKit
set_option linter.unusedVariables false
theorem bits_lt {z : Int} (h0 : 0 < z) : z < 2 ^ bitsZ z := by
  obtain ⟨Z, rfl⟩ := Int.eq_ofNat_of_zero_le (Int.le_of_lt h0)
  have hz : (Z : Int) ≠ 0 := by omega
  rw [bitsZ, if_neg hz, Int.toNat_natCast]
  have := Nat.lt_log2_self (n := Z)
  have e : ((2 ^ (Nat.log2 Z + 1) : Nat) : Int) = (2 : Int) ^ (Nat.log2 Z + 1) := by simp
  omega
theorem bits_le {z : Int} (h0 : 0 < z) : 2 ^ (bitsZ z - 1) ≤ z := by
  obtain ⟨Z, rfl⟩ := Int.eq_ofNat_of_zero_le (Int.le_of_lt h0)
  have hz : (Z : Int) ≠ 0 := by omega
  rw [bitsZ, if_neg hz, Int.toNat_natCast, Nat.add_sub_cancel]
  have := Nat.log2_self_le (n := Z) (by omega)
  have e : ((2 ^ Nat.log2 Z : Nat) : Int) = (2 : Int) ^ Nat.log2 Z := by simp
  omega
theorem pow2_mono {m n : Nat} (h : m ≤ n) : (2 : Int) ^ m ≤ 2 ^ n := by
  have := Nat.pow_le_pow_right (n := 2) (by decide) h
  have e1 : ((2 ^ m : Nat) : Int) = (2 : Int) ^ m := by simp
  have e2 : ((2 ^ n : Nat) : Int) = (2 : Int) ^ n := by simp
  omega
theorem bitsZ_pos {z : Int} (h0 : 0 < z) : 0 < bitsZ z := by
  rw [bitsZ, if_neg (by omega)]; omega
theorem bits_words {a : List Int} (hd : Wd a) (h0 : 0 < wv a) : bitsZ (wv a) ≤ a.length * 32 := by
  have h1 := bits_le h0
  have h2 := (wv_range hd).2
  rw [pow32] at h2
  have h3 : bitsZ (wv a) - 1 < a.length * 32 := by
    by_cases e : bitsZ (wv a) - 1 < a.length * 32
    · exact e
    · have := pow2_mono (m := a.length * 32) (n := bitsZ (wv a) - 1) (by omega)
      omega
  have := bitsZ_pos h0
  omega
end Go.Proofs.YtigikgphipebiaaGreatDoor
