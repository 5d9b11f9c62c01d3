/- What the conversions and the judgement of the reference's numbers return. -/
import Derived.Test.YtpfcacjcikhamaaDoorRefe
namespace Go.Proofs.YtpfcacjcikhamaaDoor
set_option maxRecDepth 100000
open Go.RowKit
def Horner (a : List Int) (k : Nat) (x : Int) : Prop := val a = valN a k + 1000 ^ k * x ∧ 0 ≤ x
theorem Horner.step {a : List Int} {m : Nat} {x : Int} (hd : Dig a) (h : Horner a (m + 1) x) (y : Int) (hy : a.getD m 0 = y) : Horner a m (x * 1000 + y) := by
  obtain ⟨h1, h2⟩ := h
  have h3 := hd.getD m
  rw [hy] at h3
  refine ⟨?_, by omega⟩
  rw [valN, p_succ, hy] at h1
  have e1 : 1000 ^ m * 1000 * x = 1000 ^ m * (x * 1000) := by rw [Int.mul_assoc, Int.mul_comm 1000 x]
  have e2 : 1000 ^ m * (x * 1000 + y) = 1000 ^ m * (x * 1000) + 1000 ^ m * y := Int.mul_add _ _ _
  have e3 : y * 1000 ^ m = 1000 ^ m * y := Int.mul_comm _ _
  omega
theorem Horner.le {a : List Int} {k : Nat} {x : Int} (hd : Dig a) (h : Horner a k x) : x ≤ val a := by
  obtain ⟨h1, h2⟩ := h
  have h3 := (valN_range hd k).1
  have h4 : 1 * x ≤ 1000 ^ k * x := Int.mul_le_mul_of_nonneg_right (by have := p_pos k; omega) h2
  omega
set_option maxHeartbeats 1000000 in
theorem num_uint (v : Value) (z : Int) (w : World) (hv : IsNum w v z) (h1 : -18446744073709551616 < z) (h2 : z < 18446744073709551616) :
    Calls Tryd.prog 17 #[v] w fun e w' => e = .returned (.int .u64 (z.natAbs : Int)) ∧ Below w.heap.size w w' := by
  obtain ⟨b1, s1, a, rfl, i1, -, g1, y1, -, rfl⟩ := hv
  have hs8 : Sized 8 (signed b1 (val a)) := sized8 (by omega) (by omega)
  have la := len_of_sized (n := 8) g1 y1 hs8
  have hva : val a < 18446744073709551616 := by cases b1 <;> simp [signed] at h1 h2 <;> omega
  have hva0 := (val_range g1).1
  have hab : Hid (((signed b1 (val a)).natAbs : Int) = val a) := Lib.hid (by cases b1 <;> simp [signed] <;> omega)
  have hi := Lib.hid (i1.below (below_one w (.cells #[.bool b1, s1] 28)))
  have hbel := Lib.hid (below_one w (.cells #[.bool b1, s1] 28))
  obtain ⟨p1, c1, rfl, hcap, -⟩ := i1
  have HD := Lib.hid g1
  have HV := Lib.hid hva
  clear h1 h2 y1 g1 hva hs8
  go_enter Tryd.func17, Tryd.ntmps17
  go_wp2_with fail
  go_loop [3, 4] (fun x i => ∃ (k : Nat) (y t : Int), Hid (t = (k : Int) - 1) ∧ -1 ≤ t ∧ t ≤ 8 ∧ k ≤ a.length ∧ x = .int .u64 y ∧ i = .int .i64 t ∧ Hid (Horner a k y)) (fun _ i => (intOf i + 1).toNat)
  case atStart => exact ⟨a.length, 0, _, Lib.hid rfl, by omega, by omega, Nat.le_refl _, rfl, rfl, Lib.hid ⟨by simp [val], Int.le_refl _⟩⟩
  case round =>
    obtain ⟨k, y, t, ht, ht1, ht2, hk, rfl, rfl, hH⟩ := hrel
    by_cases h0 : 0 ≤ t
    · obtain ⟨m, rfl⟩ : ∃ m, k = m + 1 := ⟨k - 1, by have := ht.out; omega⟩
      obtain rfl : t = (m : Int) := by have := ht.out; omega
      have hy0 := hH.out.2
      have hst := Lib.hid (fun (d : Int) (hd : a.getD m 0 = d) => hH.out.step HD.out d hd)
      have hdd := HD.out.getD m
      obtain ⟨b, off, hap, hb, hcell⟩ := hi.out.cell (i := m) (by omega)
      subst hap
      generalize hd : a.getD m 0 = d at *
      have hst2 := Lib.hid (hst.out d rfl)
      have hle := hst2.out.le HD.out
      have hlt := HV.out
      clear hst hd hH
      obtain ⟨d1, d2⟩ := hdd
      have hb1 : y * 1000 + d ≤ 18446744073709551615 := by omega
      have hb2 : 0 ≤ y * 1000 := by omega
      clear hle hlt hi
      go_wp2_with fail
      go_round
      case rel => exact ⟨m, y * 1000 + d, m - 1, Lib.hid rfl, by omega, by omega, by omega, rfl, rfl, hst2⟩
      case measure => simp [intOf]
    · obtain rfl : k = 0 := by have := ht.out; omega
      have hE : Hid (val a = y) := Lib.hid (by have := hH.out.1; simp [valN] at this; exact this)
      clear hH hi
      go_wp2_with fail
      go_ret
      exact ⟨ret_int (by rw [hab.out, hE.out]), hbel.out⟩
/-- One box, read; and what is kept. -/
def Box1 (w : World) (N : Nat) (a b : Value) (w' : World) : Prop := w'.cell? ⟨N, 0, none⟩ = some a ∧ w'.cell? ⟨N, 1, none⟩ = some b ∧ Below w.heap.size w w'
theorem Box1.call {w w1 w2 : World} {N : Nat} {a b : Value} (h : Box1 w N a b w1) (hb : Below w1.heap.size w1 w2) : Box1 w N a b w2 :=
  ⟨cell_later hb h.1, cell_later hb h.2.1, h.2.2.trans (hb.mono h.2.2.size)⟩
theorem Box1.drew {w w1 : World} {N : Nat} {a b : Value} (h : Box1 w N a b w1) : Box1 w N a b w1.drew := h.call (Below.refl _ _).drew
theorem Box1.start (w : World) (a b : Value) (T : TypeId) : Box1 w w.heap.size a b (w.alloc (.cells #[a, b] T)) := ⟨by simp [go_sem], by simp [go_sem], below_one w _⟩
end Go.Proofs.YtpfcacjcikhamaaDoor
