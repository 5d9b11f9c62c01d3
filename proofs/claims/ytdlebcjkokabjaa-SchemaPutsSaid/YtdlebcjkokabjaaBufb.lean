/- The reader: its error, what is left, the end. -/
import Derived.Test.YtdlebcjkokabjaaBufa
namespace Go.Proofs.Ytdlebcjkokabjaa
set_option maxRecDepth 100000
open Go.RowKit
set_option linter.unusedVariables false
theorem failed_any (w : World) (N : Nat) (b : List Int) (p e : Nat) (h : InAt w N b p e) :
    Calls Try.prog 76 #[.pointer (some ⟨N, 0, none⟩)] w fun r w' => r = .returned (.int .i64 e) ∧ w = w' := by
  obtain ⟨v, h, -⟩ := h
  obtain ⟨r0, r1, r2, r3⟩ := h.reads
  clear h
  go_enter Try.func76, Try.ntmps76
  go_wp2_with fail
  go_ret
  exact ⟨rfl, rfl⟩
/-- A reader that was not made, or none. -/
def NoIn (w : World) (v : Value) : Prop := v = .pointer none ∨ ∃ N, v = .pointer (some ⟨N, 0, none⟩) ∧ w.heap[N]? = some (.cells #[.slice none 0 0, .int .i64 0, .int .i64 0, .bool false] 106 (0, 0))
theorem NoIn.below {w w' : World} {v : Value} (h : NoIn w v) (hb : Below w.heap.size w w') : NoIn w' v := by
  rcases h with rfl | ⟨N, rfl, h⟩
  · exact .inl rfl
  · exact .inr ⟨N, rfl, by rw [hb.block N (Array.getElem?_eq_some_iff.1 h).1]; exact h⟩
theorem failed_no (w : World) (v : Value) (h : NoIn w v) :
    Calls Try.prog 76 #[v] w fun r w' => r = .returned (.int .i64 15) ∧ w = w' := by
  rcases h with rfl | ⟨N, rfl, h⟩
  · go_enter Try.func76, Try.ntmps76
    go_wp2_with fail
    go_ret
    exact ⟨rfl, rfl⟩
  · have r3 : w.cell? ⟨N, 3, none⟩ = some (.bool false) := by simp [World.cell?, h]
    clear h
    go_enter Try.func76, Try.ntmps76
    go_wp2_with fail
    go_ret
    exact ⟨rfl, rfl⟩
/-- A reader that reads nothing any more: its error is e. -/
def Shut (v : Value) (e : Nat) (w : World) : Prop := e ≠ 0 ∧ e < 100 ∧ ∀ w', Below w.heap.size w w' → Calls Try.prog 76 #[v] w' fun r w2 => r = .returned (.int .i64 e) ∧ w' = w2
theorem Shut.below {v : Value} {e : Nat} {w w' : World} (h : Shut v e w) (hb : Below w.heap.size w w') : Shut v e w' := ⟨h.1, h.2.1, fun w2 h2 => h.2.2 w2 (hb.trans (h2.mono hb.size))⟩
theorem InAt.shut {w : World} {N : Nat} {b : List Int} {p e : Nat} (h : InAt w N b p e) (he : e ≠ 0) (h9 : e < 100) : Shut (.pointer (some ⟨N, 0, none⟩)) e w := ⟨he, h9, fun w' hb => failed_any w' N b p e (h.below hb)⟩
theorem NoIn.shut {w : World} {v : Value} (h : NoIn w v) : Shut v 15 w := ⟨by decide, by decide, fun w' hb => failed_no w' v (h.below hb)⟩
theorem left_any (w : World) (N : Nat) (b : List Int) (p : Nat) (h : InAt w N b p 0) :
    Calls Try.prog 75 #[.pointer (some ⟨N, 0, none⟩)] w fun r w' => r = .returned (.int .i64 ((b.length - p : Nat) : Int)) ∧ Below w.heap.size w w' := by
  have HF := Lib.hid (failed_any w N b p 0 h)
  obtain ⟨v, h, hv, -, -, hl, hp⟩ := h
  obtain ⟨r0, r1, r2, r3⟩ := h.reads
  obtain ⟨a, cap, rfl, -, -⟩ := hv
  have i1 : IntKind.i64.wrap ((b.length : Int) - (p : Int)) = ((b.length - p : Nat) : Int) := by rw [IntWalk.i64_in _ (by omega)]; omega
  clear h
  go_enter Try.func75, Try.ntmps75
  go_wp2_with fail
  refine (HF.out).mono ?_; rintro r w1 ⟨rfl, rfl⟩
  go_upto_region 3 with fail
  go_region
  all_goals
    go_wp2_with fail
    go_ret
    exact ⟨rfl, (Below.refl _ _).drew⟩
theorem left_shut (w : World) (v : Value) (e : Nat) (h : Shut v e w) :
    Calls Try.prog 75 #[v] w fun r w' => r = .returned (.int .i64 0) ∧ w = w' := by
  have HF := Lib.hid (h.2.2 w (Below.refl _ _))
  have he : ((e : Int) != 0) = true := by have := h.1; simp; omega
  clear h
  go_enter Try.func75, Try.ntmps75
  go_wp2_with fail
  refine (HF.out).mono ?_; rintro r w1 ⟨rfl, rfl⟩
  go_wp2_with fail
  go_ret
  exact ⟨rfl, rfl⟩
theorem end_ok (w : World) (N : Nat) (b : List Int) (p : Nat) (h : InAt w N b p 0) (hp : b.length ≤ p) :
    Calls Try.prog 48 #[.pointer (some ⟨N, 0, none⟩)] w fun r w' => r = .returned (.int .i64 0) ∧ InAt w' N b p 0 ∧ Below w.heap.size w w' := by
  have HL := Lib.hid (left_any w N b p h)
  rw [show b.length - p = 0 by omega] at HL
  have HF := Lib.hid (fun w' (hb : Below w.heap.size w w') => failed_any w' N b p 0 (h.below hb))
  have HI := Lib.hid h
  clear h
  go_enter Try.func48, Try.ntmps48
  go_wp2_with fail
  refine (HL.out).mono ?_; rintro r w1 ⟨rfl, hb⟩
  have HB := Lib.hid hb
  clear hb
  go_wp2_with fail
  refine (HF.out _ HB.out).mono ?_; rintro r w2 ⟨rfl, rfl⟩
  go_wp2_with fail
  go_ret
  exact ⟨rfl, HI.out.below HB.out, HB.out⟩
theorem end_more (w : World) (N : Nat) (b : List Int) (p : Nat) (h : InAt w N b p 0) (hp : p < b.length) :
    Calls Try.prog 48 #[.pointer (some ⟨N, 0, none⟩)] w fun r w' => r = .returned (.int .i64 7) ∧ InAt w' N b p 7 ∧ w.grownBy w' (some N) := by
  have HL := Lib.hid (left_any w N b p h)
  obtain ⟨n, hn⟩ : ∃ n, b.length - p = n := ⟨_, rfl⟩
  rw [hn] at HL
  have i1 : (0 : Int) < (n : Int) := by omega
  have HI := Lib.hid h
  clear h hn
  go_enter Try.func48, Try.ntmps48
  go_wp2_with fail
  refine (HL.out).mono ?_; rintro r w1 ⟨rfl, hb⟩
  have h1 := HI.out.below hb
  have HG := Lib.hid (grown_then (grown_below hb (some N)) (grown_set w1 N 2 (.int .i64 7)))
  have HE := Lib.hid (h1.err 7)
  obtain ⟨v, h1, -⟩ := h1
  obtain ⟨r0, r1, r2, r3⟩ := h1.reads
  obtain ⟨f1, f2⟩ := h1.free
  have HF := Lib.hid (failed_any _ N b p 7 HE.out)
  clear h1 hb
  go_wp2_with fail
  refine (HF.out).mono ?_; rintro r w2 ⟨rfl, rfl⟩
  go_wp2_with fail
  go_ret
  exact ⟨rfl, HE.out, HG.out⟩
theorem end_shut (w : World) (v : Value) (e : Nat) (h : Shut v e w) :
    Calls Try.prog 48 #[v] w fun r w' => r = .returned (.int .i64 e) ∧ w = w' := by
  have HL := Lib.hid (left_shut w v e h)
  have HF := Lib.hid (h.2.2 w (Below.refl _ _))
  clear h
  go_enter Try.func48, Try.ntmps48
  go_wp2_with fail
  refine (HL.out).mono ?_; rintro r w1 ⟨rfl, rfl⟩
  go_wp2_with fail
  refine (HF.out).mono ?_; rintro r w2 ⟨rfl, rfl⟩
  go_wp2_with fail
  go_ret
  exact ⟨rfl, rfl⟩
end Go.Proofs.Ytdlebcjkokabjaa
