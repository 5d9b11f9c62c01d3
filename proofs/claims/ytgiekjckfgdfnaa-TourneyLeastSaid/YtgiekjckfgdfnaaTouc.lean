/- Layer 16: which of two places comes first; the queue's methods. -/
import Derived.Test.YtgiekjckfgdfnaaToub
import Derived.Test.YtgiekjckfgdfnaaCoden
import Derived.Test.YtgiekjckfgdfnaaOpn
import Derived.BigQuiet
import Derived.BigRegion
namespace Go.Proofs.Ytgiekjckfgdfnaa
set_option maxRecDepth 100000
open Go.RowKit
set_option linter.unusedVariables false
theorem pless_drew (w : World) (u v : Value) (a b : List Int) (hu : Ints .u8 w u a) (hv : Ints .u8 w v b) (ba : Bt a) (bb : Bt b) (n : Nat) :
    Calls Try.prog 10 #[u, v] (w.drewN n) fun e w' => e = .returned (.bool (lessL a b)) ∧ w' = w.drewN n :=
  (pless_bytes u v a b (w.drewN n) (hu.below ((Drawn.refl w).next n).below) (hv.below ((Drawn.refl w).next n).below) ba bb).mono fun e w' h => ⟨h.1, h.2.symm⟩
theorem getD_mem {Ls : List (List Int)} {i : Nat} (h : i < Ls.length) : Ls.getD i [] ∈ Ls := by
  simp [List.getD, h]
set_option maxHeartbeats 8000000 in
theorem cl_any (w : World) (M : Nat) (v : Value) (Ls : List (List Int)) (i j : Nat) (hM : w.cell? ⟨M, 0, none⟩ = some v) (hB : Byss w v Ls) (hbt : ∀ l ∈ Ls, Bt l) (hi : i < Ls.length) (hj : j < Ls.length) :
    Calls Try.prog 9 #[.int .i64 i, .int .i64 j, .pointer (some ⟨M, 0, none⟩)] w fun e w' => e = .returned (.bool (ltB (fun k => Ls.getD k []) i j)) ∧ Drawn w w' := by
  obtain ⟨a, cap, rfl, hc, h63, -⟩ := hB.r
  obtain ⟨b, off, qi, rfl, hlt, ci, Ii⟩ := hB.at hi
  obtain ⟨b2, off2, qj, e, -, cj, Ij⟩ := hB.at hj
  injection e with e; injection e with e1 e2
  subst e1 e2
  have H1 := Lib.hid (pless_drew w qi qj _ _ Ii Ij (hbt _ (getD_mem hi)) (hbt _ (getD_mem hj)))
  have H2 := Lib.hid (pless_drew w qj qi _ _ Ij Ii (hbt _ (getD_mem hj)) (hbt _ (getD_mem hi)))
  have HR := Lib.hid (show ltB (fun k => Ls.getD k []) i j = (lessL (Ls.getD i []) (Ls.getD j []) || (decide (i < j) && !lessL (Ls.getD j []) (Ls.getD i []))) from rfl)
  have HD := Lib.hid (fun n => (Drawn.refl w).next n)
  obtain ⟨pi, ni, ki, rfl⟩ : ∃ a n c, qi = .slice a n c := by obtain ⟨a, c, rfl, -⟩ := Ii; exact ⟨_, _, _, rfl⟩
  obtain ⟨pj, nj, kj, rfl⟩ : ∃ a n c, qj = .slice a n c := by obtain ⟨a, c, rfl, -⟩ := Ij; exact ⟨_, _, _, rfl⟩
  have i1 : (i : Int) < (Ls.length : Int) := by omega
  have j1 : (j : Int) < (Ls.length : Int) := by omega
  clear hB hbt Ii Ij hc h63 hlt
  generalize lessL (Ls.getD i []) (Ls.getD j []) = p at *
  generalize lessL (Ls.getD j []) (Ls.getD i []) = q at *
  generalize ltB (fun k => Ls.getD k []) i j = R at *
  go_enter Try.func9, Try.ntmps9
  go_wp2_with fail
  cases p with
  | true =>
    go_quiet ((go_at_call 10; exact Calls.quiet_of_same (H1.out _)))
    go_wp2
    go_ret
    exact ⟨by rw [HR.out]; rfl, HD.out _⟩
  | false =>
    by_cases hij : i < j
    · have hd : decide (i < j) = true := decide_eq_true hij
      have hij' : (i : Int) < (j : Int) := by omega
      rw [hd] at HR
      clear hij hd
      cases q with
      | true =>
        go_quiet ((first | (go_at_call 10; exact Calls.quiet_of_same (H1.out _)) | (go_at_call 10; exact Calls.quiet_of_same (H2.out _))))
        go_wp2
        go_ret
        exact ⟨by rw [HR.out]; rfl, HD.out _⟩
      | false =>
        go_quiet ((first | (go_at_call 10; exact Calls.quiet_of_same (H1.out _)) | (go_at_call 10; exact Calls.quiet_of_same (H2.out _))))
        go_wp2
        go_ret
        exact ⟨by rw [HR.out]; rfl, HD.out _⟩
    · have hd : decide (i < j) = false := decide_eq_false hij
      rw [hd] at HR
      clear hij
      go_quiet ((go_at_call 10; exact Calls.quiet_of_same (H1.out _)))
      go_wp2
      go_ret
      exact ⟨by rw [HR.out]; rfl, HD.out _⟩
/-- The queue of a call: its box's second cell is the closure that compares. -/
abbrev clF (M : Nat) : Value := .func (.func 9) #[] #[.pointer (some ⟨M, 0, none⟩)]
/-- What stands of a call's things: the rows that are compared, the queue. -/
structure QSt (w0 w : World) (M Q V : Nat) (v : Value) (Ls : List (List Int)) (a : Option Addr) (cap : Nat) (L : List Nat) : Prop where
  m : w.cell? ⟨M, 0, none⟩ = some v
  b0 : Byss w0 v Ls
  lo : Below w0.heap.size w0 w
  q : Que w Q V a cap (clF M) L
  s : ∀ x ∈ L, x < Ls.length
  ge : w0.heap.size ≤ Q ∧ w0.heap.size ≤ V ∧ M ≠ Q ∧ M ≠ V
theorem QSt.b {w0 w : World} {M Q V : Nat} {v : Value} {Ls : List (List Int)} {a : Option Addr} {cap : Nat} {L : List Nat} (h : QSt w0 w M Q V v Ls a cap L) : Byss w v Ls := h.b0.below h.lo
theorem QSt.keep {w0 w w' : World} {M Q V : Nat} {v : Value} {Ls : List (List Int)} {a : Option Addr} {cap : Nat} {L : List Nat} (h : QSt w0 w M Q V v Ls a cap L) (hb : Below w.heap.size w w') : QSt w0 w' M Q V v Ls a cap L :=
  ⟨cell_later hb h.m, h.b0, h.lo.trans (hb.mono h.lo.size), h.q.keep hb, h.s, h.ge⟩
theorem QSt.touch {w0 w w' : World} {M Q V : Nat} {v : Value} {Ls : List (List Int)} {a : Option Addr} {cap : Nat} {L L' : List Nat} (h : QSt w0 w M Q V v Ls a cap L) (hq : Que w' Q V a cap (clF M) L') (ht : Touch Q V w w') (hs : ∀ x ∈ L', x < Ls.length) : QSt w0 w' M Q V v Ls a cap L' :=
  ⟨(World.cell?_of_block (ht.block M (World.block_lt_of_cell? _ _ h.m) h.ge.2.2.1 h.ge.2.2.2)).trans h.m, h.b0, h.lo.trans (ht.below h.lo.size h.ge.1 h.ge.2.1), hq, hs, h.ge⟩
set_option maxHeartbeats 8000000 in
theorem qlen_any (w0 w : World) (M Q V : Nat) (v : Value) (Ls : List (List Int)) (a : Option Addr) (cap : Nat) (L : List Nat) (h : QSt w0 w M Q V v Ls a cap L) :
    Calls Try.prog 33 #[.pointer (some ⟨Q, 0, none⟩)] w fun e w' => e = .returned (.int .i64 L.length) ∧ w' = w := by
  obtain ⟨x0, x1, -⟩ := h.q.reads
  clear h
  go_enter Try.func33, Try.ntmps33
  go_wp2_with fail
  go_ret
  exact ⟨rfl, rfl⟩
set_option maxHeartbeats 8000000 in
theorem qless_any (w0 w : World) (M Q V : Nat) (v : Value) (Ls : List (List Int)) (a : Option Addr) (cap : Nat) (L : List Nat) (i j : Nat) (h : QSt w0 w M Q V v Ls a cap L) (hbt : ∀ l ∈ Ls, Bt l) (hi : i < L.length) (hj : j < L.length) :
    Calls Try.prog 34 #[.pointer (some ⟨Q, 0, none⟩), .int .i64 i, .int .i64 j] w fun e w' => e = .returned (.bool (ltB (fun k => Ls.getD k []) (hg L i) (hg L j))) ∧ Drawn w w' := by
  obtain ⟨x0, x1, -⟩ := h.q.reads
  obtain ⟨rfl, y0, -⟩ := h.q.at hi
  obtain ⟨-, y1, -⟩ := h.q.at hj
  have H := Lib.hid (fun n => cl_any (w.drewN n) M v Ls (hg L i) (hg L j) (cell_later ((Drawn.refl w).next n).below h.m) (h.b.below ((Drawn.refl w).next n).below) hbt (h.s _ (hg_mem hi)) (h.s _ (hg_mem hj)))
  have HD := Lib.hid (fun n => (Drawn.refl w).next n)
  have i1 : (i : Int) < (L.length : Int) := by omega
  have j1 : (j : Int) < (L.length : Int) := by omega
  clear h hi hj
  generalize hg L i = x at *
  generalize hg L j = y at *
  generalize ltB (fun k => Ls.getD k []) x y = R at *
  go_enter Try.func34, Try.ntmps34
  go_wp2_with fail
  go_quiet ((go_at_call 9; exact Calls.quiet_of (H.out _)))
  go_wp2
  go_ret
  exact ⟨rfl, HD.out _⟩
end Go.Proofs.Ytgiekjckfgdfnaa
