/- What raise, Shl and Shr of package nat return. -/
import Derived.Test.YtpfcacjcikhamaaDoorNatg
namespace Go.Proofs.YtpfcacjcikhamaaDoor
set_option maxRecDepth 100000
open Go.RowKit
set_option linter.unusedVariables false
/-- The first i words of a, W words and R bits higher. -/
def RaiseRel (a : List Int) (W R i : Nat) (out : List Int) : Prop :=
  wvN out (i + W + 1) = wvN a i * (2 ^ R * 4294967296 ^ W) ∧ Wd out ∧ out.length = a.length + W + 1 ∧ (∀ j, i + W + 1 ≤ j → out.getD j 0 = 0) ∧ out.getD (i + W) 0 < 2 ^ R
theorem RaiseRel.start (a : List Int) (W R : Nat) : RaiseRel a W R 0 (List.replicate (a.length + W + 1) 0) := by
  have hz : ∀ j, (List.replicate (a.length + W + 1) (0 : Int)).getD j 0 = 0 := fun j => by simp [List.getD, List.getElem?_replicate]; split <;> simp
  refine ⟨?_, Wd.zeros _, by simp, fun j _ => hz j, ?_⟩
  · have := wvN_congr (a := List.replicate (a.length + W + 1) (0 : Int)) (b := []) (n := 0 + W + 1) (fun i _ => by rw [hz]; rfl)
    rw [this]
    have e : ∀ n, wvN [] n = 0 := fun n => by
      induction n with
      | zero => rfl
      | succ n ih => rw [wvN, ih]; simp
    rw [e]; simp [wvN]
  · rw [hz]; exact Int.pow_pos (by decide)
theorem shl_parts (x : Int) (R : Nat) (hR : R < 32) (x0 : 0 ≤ x) (x1 : x ≤ 4294967295) :
    ∃ m h : Nat, IntKind.u64.wrap (x * 2 ^ R) % 4294967296 = ((2 ^ R * m : Nat) : Int) ∧ IntKind.u64.wrap (x * 2 ^ R) / 4294967296 % 4294967296 = (h : Int) ∧ h < 2 ^ R ∧ 2 ^ R * m + 2 ^ R ≤ 4294967296 ∧ x * 2 ^ R = ((2 ^ R * m : Nat) : Int) + 4294967296 * (h : Int) := by
  obtain ⟨X, rfl⟩ := Int.eq_ofNat_of_zero_le x0
  obtain ⟨S, hS⟩ : ∃ S, 32 = R + S := ⟨32 - R, by omega⟩
  have hQ : 4294967296 = 2 ^ R * 2 ^ S := by rw [← Nat.pow_add, ← hS]
  have hP : 0 < 2 ^ R := Nat.two_pow_pos R
  have hP' : 0 < 2 ^ S := Nat.two_pow_pos S
  have e : X = 2 ^ S * (X / 2 ^ S) + X % 2 ^ S := (Nat.div_add_mod X (2 ^ S)).symm
  have hm : X % 2 ^ S < 2 ^ S := Nat.mod_lt _ hP'
  have hh : X / 2 ^ S < 2 ^ R := by
    refine Nat.div_lt_of_lt_mul ?_
    rw [Nat.mul_comm, ← hQ]; omega
  have hx : X * 2 ^ R = 2 ^ R * (X % 2 ^ S) + 4294967296 * (X / 2 ^ S) := by
    conv => lhs; rw [e]
    rw [Nat.add_mul, hQ, Nat.mul_comm (X % 2 ^ S), Nat.add_comm, Nat.mul_comm (2 ^ S) (X / 2 ^ S), Nat.mul_assoc, Nat.mul_comm (2 ^ S) (2 ^ R), Nat.mul_comm (X / 2 ^ S)]
  have h1 : 2 ^ R * (X % 2 ^ S) + 2 ^ R ≤ 4294967296 := by
    have : 2 ^ R * (X % 2 ^ S + 1) ≤ 2 ^ R * 2 ^ S := Nat.mul_le_mul_left _ hm
    rw [Nat.mul_add, ← hQ] at this; omega
  have hr : 2 ^ R ≤ 2 ^ 31 := Nat.pow_le_pow_right (by omega) (by omega)
  refine ⟨X % 2 ^ S, X / 2 ^ S, ?_, ?_, hh, h1, ?_⟩
  all_goals
    have hc : (X : Int) * 2 ^ R = ((X * 2 ^ R : Nat) : Int) := by simp
    rw [hc, hx]
  · rw [IntKind.wrap_u64]; omega
  · rw [IntKind.wrap_u64]; omega
  · omega
theorem RaiseRel.step {a out : List Int} {W R i : Nat} (ha : Wd a) (h : RaiseRel a W R i out) (hi : i < a.length) (hR : R < 32) (x o : Int) (hx : a.getD i 0 = x) (ho : out.getD (i + W) 0 = o) :
    RaiseRel a W R (i + 1) ((out.set (i + W) (bits BinOp.or IntKind.u32 o (IntKind.u64.wrap (x * 2 ^ R) % 4294967296))).set (i + W + 1) (IntKind.u64.wrap (x * 2 ^ R) / 4294967296 % 4294967296)) := by
  obtain ⟨h1, h2, h3, h4, h5⟩ := h
  have hxr := ha.getD i
  have hor := h2.getD (i + W)
  rw [hx] at hxr
  rw [ho] at hor h5
  obtain ⟨m, hi', e1, e2, e3, e4, e5⟩ := shl_parts x R hR hxr.1 hxr.2
  obtain ⟨O, rfl⟩ := Int.eq_ofNat_of_zero_le hor.1
  have hO : O < 2 ^ R := by
    have : ((2 ^ R : Nat) : Int) = (2 : Int) ^ R := by simp
    omega
  have hr : 2 ^ R ≤ 2 ^ 31 := Nat.pow_le_pow_right (by omega) (by omega)
  rw [e1, e2, or_sum32' m O R hO (by omega)]
  have hL : i + W < out.length := by omega
  refine ⟨?_, (h2.set (by omega) (by omega)).set (by omega) (by omega), by simp; omega, fun j hj => ?_, ?_⟩
  · rw [show i + 1 + W + 1 = (i + W + 1) + 1 from by omega, wvN_set_succ (by simp; omega), wvN_set_succ hL]
    rw [wvN, ho] at h1
    rw [wvN, hx, q_succ, Int.add_mul, ← h1]
    have k1 : x * 4294967296 ^ i * (2 ^ R * 4294967296 ^ W) = x * 2 ^ R * 4294967296 ^ (i + W) := by
      rw [Int.pow_add, Int.mul_assoc, Int.mul_assoc, ← Int.mul_assoc (4294967296 ^ i : Int), Int.mul_comm (4294967296 ^ i : Int) (2 ^ R), Int.mul_assoc]
    rw [k1, e5]
    have k2 : ((2 ^ R * m + O : Nat) : Int) * 4294967296 ^ (i + W) = ((2 ^ R * m : Nat) : Int) * 4294967296 ^ (i + W) + (O : Int) * 4294967296 ^ (i + W) := by rw [Int.natCast_add, Int.add_mul]
    have k3 : (((2 ^ R * m : Nat) : Int) + 4294967296 * (hi' : Int)) * 4294967296 ^ (i + W) = ((2 ^ R * m : Nat) : Int) * 4294967296 ^ (i + W) + (hi' : Int) * (4294967296 ^ (i + W) * 4294967296) := by
      rw [Int.add_mul, Int.mul_comm 4294967296 (hi' : Int), Int.mul_assoc, Int.mul_comm (4294967296 : Int) (4294967296 ^ (i + W))]
    omega
  · rw [getD_set_other (by omega), getD_set_other (by omega)]; exact h4 j (by omega)
  · rw [show i + 1 + W = i + W + 1 from by omega, getD_set_self (by simp; omega)]
    have : ((2 ^ R : Nat) : Int) = (2 : Int) ^ R := by simp
    omega
theorem RaiseRel.stop {a out : List Int} {W R : Nat} (h : RaiseRel a W R a.length out) : wv out = wv a * (2 ^ R * 4294967296 ^ W) ∧ Wd out ∧ out.length = a.length + W + 1 := by
  obtain ⟨h1, h2, h3, h4, h5⟩ := h
  refine ⟨?_, h2, h3⟩
  rw [← wvN_past out (n := a.length + W + 1) (by omega), h1]; rfl
/-- A row that was filled, noughts at its end and all. -/
def Raised (w : World) (z : Int) (L : Nat) (e : Ending) (w' : World) : Prop :=
  ∃ out, e = .returned (.slice (some ⟨w.heap.size, 0, none⟩) L L) ∧ Fill w w.heap.size L out w' ∧ Wd out ∧ out.length = L ∧ wv out = z
set_option maxHeartbeats 2000000 in
theorem raise_any (u : Value) (a : List Int) (w : World) (hu : WList w u a) (la : a.length ≤ 274877906944) (n W R : Nat) (hn : n = 32 * W + R) (hR : R < 32) (hW : W ≤ 1000000) :
    Calls Tryd.prog 78 #[u, .int .i64 n] w (Raised w (wv a * (2 ^ R * 4294967296 ^ W)) (a.length + W + 1)) := by
  obtain ⟨i0, hi, hz0, hz1, hz2⟩ := info_parts Tryd.infoU32
  obtain ⟨p, c, rfl⟩ := hu.shape
  have HA := Lib.hid hu
  clear hu
  have hq : (n : Int) / 32 = (W : Int) := by omega
  have hr : (n : Int) % 32 = (R : Int) := by omega
  have hn0 : n ≤ 40000000 := by omega
  clear hn
  go_enter Tryd.func78, Tryd.ntmps78
  go_wp2_with (at_make; refine wpList_make_full _ rfl _ _ 22 rfl w.heap.size 31 i0 (.int .u32 0) 1 Tryd.underlying22 hi hz0 hz1 .i64 .i64 _ _ (a.length + W + 1) rfl rfl (by omega) (by omega) (by rw [hz2]; omega) (by unfold maxLen; omega) (by simp) ?_; intro w0 hown hgrow)
  have hF := Lib.hid (wrow_made rfl hown hgrow)
  clear hown hgrow
  go_wp2_with fail
  go_loopw [22] (fun i wr => ∃ (k : Nat) (out : List Int), k ≤ a.length ∧ i = .int .i64 k ∧ Hid (RaiseRel a W R k out) ∧ Hid (Fill w w.heap.size (a.length + W + 1) out wr)) (fun i _ => a.length - (intOf i).toNat)
  case atStart => exact ⟨0, _, Nat.zero_le _, rfl, Lib.hid (RaiseRel.start a W R), hF⟩
  case round =>
    obtain ⟨k, out, hk, rfl, hO, hS⟩ := hrel
    clear hF
    have hlen := Lib.hid hO.out.2.2.1
    clear hq hr
    by_cases hlt : k < a.length
    · obtain ⟨ho1, ho2⟩ := hS.out.cells (j := k + W) (by have := hlen.out; omega)
      obtain ⟨hh1, hh2⟩ := hS.out.cells (j := k + W + 1) (by have := hlen.out; omega)
      obtain ⟨pb, po, hp1, hpb, hpa⟩ := HA.out.1.cell hlt
      subst hp1
      have hpa := cell_later hS.out.2 hpa
      have ox := hO.out.2.1.getD (k + W)
      have ax := HA.out.2.1.getD k
      have hst := Lib.hid (fun (x o : Int) (hx : a.getD k 0 = x) (ho : out.getD (k + W) 0 = o) => hO.out.step HA.out.2.1 hlt hR x o hx ho)
      generalize a.getD k 0 = x at *
      generalize out.getD (k + W) 0 = o at *
      have hst2 := Lib.hid (hst.out x o rfl rfl)
      have hSS := Lib.hid (fun (y z : Int) => (hS.out.set (k + W) y).set (k + W + 1) z)
      clear hst hO hS hpb
      obtain ⟨x1, x2⟩ := ax
      obtain ⟨o1, o9⟩ := ox
      have hB5 : (0 : Int) ≤ (k : Int) + (W : Int) := by omega
      have hB6 : (k : Int) + (W : Int) < (a.length : Int) + (W : Int) + 1 := by omega
      have e5 : ((k : Int) + (W : Int)).toNat = k + W := by omega
      have e6 : ((k : Int) + (W : Int) + 1).toNat = k + W + 1 := by omega
      go_wp2_with fail
      go_roundw
      case rel => exact ⟨k + 1, _, by omega, by go_num, hst2, Lib.hid (hSS.out _ _)⟩
      case measure => simp [intOf]; omega
    · obtain rfl : k = a.length := by omega
      have hE := Lib.hid hO.out.stop
      clear hO
      go_wp2_with fail
      go_ret
      exact ⟨out, rfl, hS.out, hE.out.2.1, hE.out.2.2, hE.out.1⟩
end Go.Proofs.YtpfcacjcikhamaaDoor
