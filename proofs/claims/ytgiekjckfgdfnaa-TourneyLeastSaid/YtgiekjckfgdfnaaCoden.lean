/- The program's Less. -/
import Derived.Test.YtgiekjckfgdfnaaCodem
import Derived.Lib.BytesEntry
import Derived.Laws.Externs
namespace Go.Proofs.Ytgiekjckfgdfnaa
set_option maxRecDepth 100000
open Go.RowKit
set_option linter.unusedVariables false
theorem read_ints {P : Program} {w : World} {v : Value} {l : List Int} (h : Ints .u8 w v l) : (Extern.Bytes.bytesOf v).run P w = .ok ⟨(Lib.bytesOf l).toArray⟩ w := by
  obtain ⟨a, cap, rfl, -, hh⟩ := h
  cases a with
  | none =>
    have hl : l = [] := by
      rcases hh with h0 | ⟨b, off, e, -⟩
      · exact h0
      · cases e
    subst hl
    simp [Extern.Bytes.bytesOf, Lib.bytesOf]
    rfl
  | some ad =>
    have hl := Lib.run_loadBytesX (P := P) w l ad .empty (fun j x hj => by
      rcases hh with h0 | ⟨b, off, e, -, hc⟩
      · subst h0; simp at hj
      · cases e
        have hjl : j < l.length := (List.getElem?_eq_some_iff.1 hj).1
        have e : (⟨b, off, none⟩ : Addr).add j = ⟨b, off + j, none⟩ := by unfold Addr.add; split <;> simp_all
        rw [e, hc j hjl, List.getD_eq_getElem?_getD, hj]
        rfl)
    have he : (⟨ByteArray.empty.data ++ (Lib.bytesOf l).toArray⟩ : ByteArray) = ⟨(Lib.bytesOf l).toArray⟩ := by
      apply ByteArray.ext
      show (#[] : Array UInt8) ++ (Lib.bytesOf l).toArray = (Lib.bytesOf l).toArray
      simp
    rw [he] at hl
    exact hl
theorem u8_lt {x y : Int} (hx : 0 ≤ x ∧ x ≤ 255) (hy : 0 ≤ y ∧ y ≤ 255) : x.toNat.toUInt8 < y.toNat.toUInt8 ↔ x < y := by
  have e1 : x.toNat.toUInt8.toNat = x.toNat := UInt8.toNat_ofNat_of_lt' (by show _ < 256; omega)
  have e2 : y.toNat.toUInt8.toNat = y.toNat := UInt8.toNat_ofNat_of_lt' (by show _ < 256; omega)
  rw [UInt8.lt_iff_toNat_lt, e1, e2]; omega
theorem cmp_cons (a b : UInt8) (x y : List UInt8) : Lib.compareBytes (a :: x) (b :: y) = if a < b then -1 else if b < a then 1 else Lib.compareBytes x y := by rw [Lib.compareBytes]
theorem cmp_less : ∀ {a b : List Int}, Bt a → Bt b → decide (Lib.compareBytes (Lib.bytesOf a) (Lib.bytesOf b) < 0) = lessL a b
  | [], [], _, _ => by simp [Lib.bytesOf, Lib.compareBytes, lessL]
  | [], y :: b, _, _ => by simp [Lib.bytesOf, Lib.compareBytes, lessL]
  | x :: a, [], _, _ => by simp [Lib.bytesOf, Lib.compareBytes, lessL]
  | x :: a, y :: b, h, k => by
    have ih := cmp_less h.tail k.tail
    rw [lessL_cons, ← ih]
    show decide (Lib.compareBytes (x.toNat.toUInt8 :: Lib.bytesOf a) (y.toNat.toUInt8 :: Lib.bytesOf b) < 0) = _
    rw [cmp_cons]
    simp only [u8_lt h.head k.head, u8_lt k.head h.head]
    split
    · simp
    · split
      · simp
      · rfl
theorem run_cmp {w : World} {u v : Value} {a b : List Int} (hu : Ints .u8 w u a) (hv : Ints .u8 w v b) : (callFunc 16 #[u, v]).run Try.prog w = .ok (.value (.int .i64 (Lib.compareBytes (Lib.bytesOf a) (Lib.bytesOf b)))) w := by
  rw [run_callFunc_extern Try.func16 (by kernel_rfl) (by kernel_rfl) (by kernel_rfl) (e := Extern.BytealgCompare.compare) (by kernel_rfl)]
  have h1 := read_ints (P := Try.prog) hu
  have h2 := read_ints (P := Try.prog) hv
  have e : (Extern.BytealgCompare.compare #[u, v]).run Try.prog w = .ok (.int .i64 (Lib.compareBytes (Lib.bytesOf a) (Lib.bytesOf b))) w := by
    change Sem.run Try.prog (do pure (goInt (Extern.BytealgCompare.cmp (← Extern.Bytes.bytesOf u) (← Extern.Bytes.bytesOf v)))) w = _
    simp only [Sem.run_bind, Sem.run_pure, h1, h2, Result.andThen]
    rw [Lib.cmp_eq]
    rfl
  rw [e]; rfl
theorem pless_bytes (u v : Value) (a b : List Int) (w : World) (hu : Ints .u8 w u a) (hv : Ints .u8 w v b) (ba : Bt a) (bb : Bt b) :
    Calls Try.prog 10 #[u, v] w fun e w' => e = .returned (.bool (lessL a b)) ∧ w = w' := by
  have hc := run_cmp hu hv
  have hR := Lib.hid (cmp_less ba bb)
  have hb : Calls Try.prog 14 #[u, v] w fun e w' => e = .returned (.int .i64 (Lib.compareBytes (Lib.bytesOf a) (Lib.bytesOf b))) ∧ w = w' := by
    obtain ⟨pa, ca, rfl, -, -⟩ := hu
    obtain ⟨pb, cb, rfl, -, -⟩ := hv
    generalize Lib.compareBytes (Lib.bytesOf a) (Lib.bytesOf b) = c at *
    go_enter Try.func14, Try.ntmps14
    go_wp2_with (simp only [hc])
    go_ret
    exact ⟨rfl, rfl⟩
  have HB := Lib.hid hb
  clear hb hc
  obtain ⟨pa, ca, rfl, -, -⟩ := hu
  obtain ⟨pb, cb, rfl, -, -⟩ := hv
  generalize Lib.compareBytes (Lib.bytesOf a) (Lib.bytesOf b) = c at *
  go_enter Try.func10, Try.ntmps10
  go_wp2_with fail
  refine (HB.out).mono ?_; rintro e w1 ⟨rfl, rfl⟩
  go_wp2_with fail
  go_ret
  exact ⟨by rw [← hR.out]; rfl, rfl⟩
end Go.Proofs.Ytgiekjckfgdfnaa
