/- What Text of package bushelref02 returns. -/
import Derived.Test.YtpfcacjcikhamaaDoorNumx
import Derived.Test.YtpfcacjcikhamaaDoorLaid2
import Derived.WalkLawsBesides
import Derived.Lib.Strings
namespace Go.Proofs.YtpfcacjcikhamaaDoor
set_option maxRecDepth 100000
open Go.RowKit
set_option linter.unusedVariables false
/-- The lowest n groups of three digits and k digits more (t of x = t + 10^k y). -/
def TRel (ds : List Int) (n k : Nat) (x y : Int) (l : List UInt8) : Prop :=
  l.all isDig = true ∧ l.length = 3 * n + k ∧ ∃ t, decI l = valN ds n + 1000 ^ n * t ∧ x = t + 10 ^ k * y ∧ 0 ≤ t ∧ t < 10 ^ k
theorem TRel.start {ds : List Int} {n : Nat} {l : List UInt8} (x : Int) (h : l.all isDig = true ∧ l.length = 3 * n ∧ decI l = valN ds n) : TRel ds n 0 x x l :=
  ⟨h.1, by have := h.2.1; omega, 0, by rw [h.2.2]; simp, by simp, by omega, by decide⟩
theorem thousand (n k : Nat) : (10 : Int) ^ (3 * n + k) = 1000 ^ n * 10 ^ k := by
  rw [Int.pow_add, Int.pow_mul]; rfl
theorem dig_byte {y : Int} (y0 : 0 ≤ y) : ∃ c : UInt8, ((({ data := #[48, 49, 50, 51, 52, 53, 54, 55, 56, 57] } : ByteArray).extract (y % 10).toNat (y % 10 + 1).toNat).data.toList = [c]) ∧ (c.toNat : Int) = 48 + y % 10 := by
  have key : ∀ m : Fin 10, (({ data := #[48, 49, 50, 51, 52, 53, 54, 55, 56, 57] } : ByteArray).extract m.val (m.val + 1)).data.toList = [(48 + m.val).toUInt8] ∧ (48 + m.val).toUInt8.toNat = 48 + m.val := by decide
  have h := key ⟨(y % 10).toNat, by omega⟩
  have e : (y % 10 + 1).toNat = (y % 10).toNat + 1 := by omega
  rw [e]
  have h2 : (48 + (y % 10).toNat).toUInt8.toNat = 48 + (y % 10).toNat := h.2
  exact ⟨(48 + (y % 10).toNat).toUInt8, h.1, by rw [h2]; omega⟩
theorem TRel.next {ds : List Int} {n k : Nat} {x y : Int} {S : ByteArray} (h : TRel ds n k x y S.data.toList) (y0 : 0 ≤ y) :
    TRel ds n (k + 1) x (y / 10) (({ data := #[48, 49, 50, 51, 52, 53, 54, 55, 56, 57] } : ByteArray).extract (y % 10).toNat (y % 10 + 1).toNat ++ S).data.toList := by
  obtain ⟨c, h1, h2⟩ := dig_byte y0
  obtain ⟨g1, g2, t, g3, g4, g5, g6⟩ := h
  have e : (({ data := #[48, 49, 50, 51, 52, 53, 54, 55, 56, 57] } : ByteArray).extract (y % 10).toNat (y % 10 + 1).toNat ++ S).data.toList = c :: S.data.toList := by
    rw [ByteArray.data_append, Array.toList_append, h1]; rfl
  rw [e]
  have hp : (0 : Int) < 10 ^ k := t_pos k
  have hm0 : 0 ≤ y % 10 := by omega
  have hm1 : y % 10 ≤ 9 := by omega
  have hyy : y = y % 10 + 10 * (y / 10) := by omega
  refine ⟨?_, by rw [List.length_cons, g2]; omega, t + 10 ^ k * (y % 10), ?_, ?_, ?_, ?_⟩
  · rw [List.all_cons, g1, Bool.and_true, isDig_iff]; omega
  · rw [decI_cons, g3, g2, thousand, h2, Int.mul_add, Int.add_comm]
    have : (48 + y % 10 - 48) * (1000 ^ n * 10 ^ k) = 1000 ^ n * (10 ^ k * (y % 10)) := by
      rw [show 48 + y % 10 - 48 = y % 10 by omega, Int.mul_comm, Int.mul_assoc]
    rw [this]; omega
  · have : (10 : Int) ^ (k + 1) * (y / 10) = 10 ^ k * (10 * (y / 10)) := by rw [Int.pow_succ, Int.mul_assoc]
    rw [this]
    have h3 : (10 : Int) ^ k * y = 10 ^ k * (y % 10 + 10 * (y / 10)) := by rw [← hyy]
    rw [Int.mul_add] at h3
    omega
  · have := Int.mul_nonneg (Int.le_of_lt hp) hm0; omega
  · rw [Int.pow_succ]
    have := Int.mul_le_mul_of_nonneg_left hm1 (Int.le_of_lt hp)
    omega
theorem TRel.stop {ds : List Int} {n : Nat} {x y : Int} {l : List UInt8} (h : TRel ds n 3 x y l) (hx : ds.getD n 0 = x) (x0 : 0 ≤ x) (x1 : x ≤ 999) (y0 : 0 ≤ y) : l.all isDig = true ∧ l.length = 3 * (n + 1) ∧ decI l = valN ds (n + 1) := by
  obtain ⟨g1, g2, t, g3, g4, g5, g6⟩ := h
  have e : (10 : Int) ^ 3 = 1000 := by decide
  rw [e] at g4 g6
  obtain rfl : t = x := by omega
  refine ⟨g1, by omega, ?_⟩
  rw [g3, valN, hx, Int.mul_comm]
def strLen : Value → Nat
  | .string s => s.size
  | _ => 0
theorem drop_zero {S : ByteArray} (h : 0 < S.size) (h0 : S[0].toNat = 48) (ha : S.data.toList.all isDig = true) : (S.extract 1 S.size).data.toList.all isDig = true ∧ decI (S.extract 1 S.size).data.toList = decI S.data.toList ∧ (S.extract 1 S.size).size < S.size := by
  have e : S.data.toList = S[0] :: (S.extract 1 S.size).data.toList := by
    have h1 : (S.extract 1 S.size).data.toList = S.data.toList.drop 1 := by
      have := Lib.extract_toList S 1 S.size
      rw [ByteArray.toList_eq] at this
      rw [this]
      exact List.take_of_length_le (by simp)
    rw [h1]
    have h3 : S.data.toList[0]? = some S[0] := by simp [h, ByteArray.getElem_eq_getElem_data]
    cases hc : S.data.toList with
    | nil => rw [hc] at h3; simp at h3
    | cons c t => rw [hc] at h3; simp at h3; rw [h3]; rfl
  have hl : S.data.toList.length = S.size := by simp
  have hl2 : (S.extract 1 S.size).data.toList.length = (S.extract 1 S.size).size := by simp
  rw [e, List.all_cons, Bool.and_eq_true] at ha
  refine ⟨ha.2, ?_, ?_⟩
  · rw [e, decI_cons, h0]; simp
  · rw [e, List.length_cons] at hl; omega
set_option maxHeartbeats 2000000 in
theorem rtext_any (v : Value) (z : Int) (w : World) (hv : IsNum w v z) (h0 : 0 ≤ z) (hs : Sized 1000 z) :
    Calls Tryd.prog 29 #[v] w (TextPost z w) := by
  obtain ⟨nb, s, ds, rfl, hi, ht, hd, hty, hn, hz⟩ := hv
  obtain ⟨np, nc, rfl, hlc, hcell⟩ := id hi
  have hB := below_one w (.cells #[.bool nb, .slice np ds.length nc] 28)
  have HI := Lib.hid (hi.below hB)
  have HB := Lib.hid hB
  have hx : (w.alloc (.cells #[.bool nb, .slice np ds.length nc] 28)).cell? ⟨w.heap.size, 1, none⟩ = some (.slice np ds.length nc) := by simp [go_sem]
  have hll : ds.length ≤ 1000 := len_of_sized hd hty (by rw [← hz]; exact hs)
  have hval : Hid (val ds = z) := Lib.hid (by
    cases nb
    · rw [hz]; rfl
    · have h1 := hn rfl
      have h2 : val ds ≠ 0 := fun e => h1 ((hty.zero hd).1 e)
      have h3 := (val_range hd).1
      simp [signed] at hz; omega)
  clear hi hB hcell ht hty hn hz hs
  go_enter Tryd.func29, Tryd.ntmps29
  go_wp2_with fail
  generalize w.alloc (.cells #[.bool nb, .slice np ds.length nc] 28) = W at *
  go_loop [3, 4] (fun s i => ∃ (n : Nat) (S : ByteArray), n ≤ ds.length ∧ i = .int .i64 n ∧ s = .string S ∧ Hid (S.data.toList.all isDig = true ∧ S.data.toList.length = 3 * n ∧ decI S.data.toList = valN ds n)) (fun _ i => ds.length - (intOf i).toNat)
  case atStart => exact ⟨0, _, Nat.zero_le _, rfl, rfl, Lib.hid ⟨rfl, rfl, rfl⟩⟩
  case round =>
    obtain ⟨n, S, hn2, rfl, rfl, hR⟩ := hrel
    by_cases hlt : n < ds.length
    · obtain ⟨b1, o1, hp1, hb1, hc⟩ := HI.out.cell (i := n) hlt
      subst hp1
      have dx := hd.getD n
      have hst := Lib.hid (fun (x y : Int) (l : List UInt8) (hx : ds.getD n 0 = x) (h : TRel ds n 3 x y l) (x0 : 0 ≤ x) (x1 : x ≤ 999) (y0 : 0 ≤ y) => h.stop hx x0 x1 y0)
      generalize ds.getD n 0 = x at *
      have hst := Lib.hid (fun (y : Int) (l : List UInt8) (h : TRel ds n 3 x y l) (y0 : 0 ≤ y) => hst.out x y l rfl h dx.1 dx.2 y0)
      obtain ⟨x0, x1⟩ := dx
      have q0 : (0 : Int) ≤ (n : Int) := by omega
      have q1 : (n : Int) < (ds.length : Int) := by omega
      have hR0 := Lib.hid (TRel.start x hR.out)
      clear hR
      go_wp2_with fail
      go_loop [3, 5, 6] (fun s d i => ∃ (k : Nat) (S : ByteArray) (y : Int), k ≤ 3 ∧ i = .int .i64 k ∧ s = .string S ∧ d = .int .i64 y ∧ 0 ≤ y ∧ y ≤ 999 ∧ Hid (TRel ds n k x y S.data.toList)) (fun _ _ i => 3 - (intOf i).toNat)
      case atStart => exact ⟨0, _, _, Nat.zero_le _, rfl, rfl, rfl, x0, x1, hR0⟩
      case round =>
        clear hR0
        obtain ⟨k, S, y, hk, rfl, rfl, rfl, y0, y1, hR⟩ := hrel
        by_cases hk3 : k < 3
        · have hN := Lib.hid (hR.out.next y0)
          have hsz : S.size = 3 * n + k := by have := hR.out.2.1; simpa using this
          have hle : ¬ 9223372036854775807 < min (y % 10 + 1).toNat 10 - (y % 10).toNat + S.size := by omega
          clear hR hsz
          go_wp2_with fail
          go_round
          case rel => exact ⟨k + 1, _, _, by omega, by go_num, rfl, rfl, by omega, by omega, hN⟩
          case measure => simp [intOf]; omega
        · obtain rfl : k = 3 := by omega
          have hE := Lib.hid (hst.out y _ hR.out y0)
          clear hR hst
          go_wp2_with fail
          go_round
          case rel => exact ⟨n + 1, _, by omega, by go_num, rfl, hE⟩
          case measure => simp [intOf]; omega
    · obtain rfl : n = ds.length := by omega
      have hE : Hid (S.data.toList.all isDig = true ∧ decI S.data.toList = z) := Lib.hid ⟨hR.out.1, hR.out.2.2.trans hval.out⟩
      have hsz : S.size ≤ 3000 := by have := hR.out.2.1; simp at this; omega
      clear hR hval
      go_wp2_with fail
      go_loop [3] (fun s => ∃ S : ByteArray, s = .string S ∧ S.size ≤ 3000 ∧ Hid (S.data.toList.all isDig = true ∧ decI S.data.toList = z)) (fun s => strLen s)
      case atStart => exact ⟨S, rfl, hsz, hE⟩
      case round =>
        clear hE hsz
        obtain ⟨S, rfl, hsz, hE⟩ := hrel
        by_cases hz0 : S.size = 0
        · have hl0 : S.data.toList = [] := List.length_eq_zero_iff.1 (by simpa using hz0)
          have hzz : Hid (z = 0) := Lib.hid (by have := hE.out.2; rw [hl0] at this; simpa [decI] using this.symm)
          have htl := ByteArray.toList_eq S
          rw [hl0] at htl
          clear hE hl0
          go_wp2_with fail
          go_ret
          exact ⟨_, rfl, by rw [hzz.out]; exact isDec_zero, HB.out⟩
        · have hp : 0 < S.size := by omega
          by_cases h48 : S[0].toNat = 48
          · obtain ⟨d1, d2, d3⟩ := drop_zero hp h48 hE.out.1
            have hN : Hid ((S.extract 1 S.size).data.toList.all isDig = true ∧ decI (S.extract 1 S.size).data.toList = z) := Lib.hid ⟨d1, d2.trans hE.out.2⟩
            have d3 := Lib.hid d3
            have hc1 : (S[0].toNat : Int) = 48 := by omega
            clear d1 d2 hE
            go_wp2_with fail
            go_round
            case rel => exact ⟨_, rfl, by have := d3.out; omega, hN⟩
            case measure => exact d3.out
          · have hc1 : ((S[0].toNat : Int) == 48) = false := by simp; omega
            have hne : S.data.toList ≠ [] := fun e => hz0 (by have := congrArg List.length e; simpa using this)
            have hhead : S.data.toList.head? = some S[0] := by
              rw [List.head?_eq_getElem?]; simp [hp, ByteArray.getElem_eq_getElem_data]
            have hD : Hid (IsDec S.data.toList z) := Lib.hid ⟨hE.out.1, hE.out.2, hne, fun e => by
              rw [hhead] at e
              exact absurd (by rw [Option.some.inj e]; rfl) h48⟩
            have h1 : ¬ S.toList = [] := by rw [ByteArray.toList_eq]; exact hne
            have h2 : S.toList.isEmpty = false := by cases e : S.toList with | nil => exact absurd e h1 | cons _ _ => rfl
            clear hE hne hhead h48
            go_wp2_with fail
            go_ret
            exact ⟨_, rfl, hD.out, HB.out⟩
end Go.Proofs.YtpfcacjcikhamaaDoor
