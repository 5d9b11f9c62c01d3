/- The reader's functions. -/
import Derived.Test.YtdlebcjkokabjaaBufe
namespace Go.Proofs.Ytdlebcjkokabjaa
set_option maxRecDepth 100000
open Go.RowKit
set_option linter.unusedVariables false
theorem ReadP.from {V : Value → World → Prop} {w w1 w' : World} {N : Nat} {b : List Int} {p n e : Nat} {r : Ending} (h : ReadP V w1 N b p n e r w') (hb : Below w.heap.size w w1) : ReadP V w N b p n e r w' :=
  ⟨h.1, h.2.1, grown_then (grown_below hb (some N)) h.2.2⟩
theorem inU_any (w : World) (N : Nat) (b : List Int) (p : Nat) (most : Int) (h : InAt w N b p 0)  :
    Calls Try.prog 70 #[.pointer (some ⟨N, 0, none⟩), .int .u64 most] w (ReadP (fun v _ => v = .int .u64 (uN most (getU (b.drop p))).1) w N b p (uN most (getU (b.drop p))).2.1 (uN most (getU (b.drop p))).2.2) := by
  have HB := Lib.hid (below_one w (.cells #[.int .u64 most] 30))
  have HR := Lib.hid (readU_any (w.alloc (.cells #[.int .u64 most] 30)) N b p w.heap.size most (h.below HB.out) (by simp [go_sem]))
  clear h
  generalize uN most (getU (b.drop p)) = rr at *
  go_enter Try.func70, Try.ntmps70
  go_wp2_with fail
  refine (HR.out).mono ?_; intro r w2 hr
  have hr := hr.from HB.out
  obtain ⟨⟨v, rfl, rfl⟩, hr2⟩ := hr
  have HQ := Lib.hid hr2
  clear hr2
  go_wp2_with fail
  go_ret
  exact ⟨⟨_, rfl, rfl⟩, HQ.out⟩
theorem inU_shut (w : World) (v : Value) (e : Nat) (most : Int) (h : Shut v e w) :
    Calls Try.prog 70 #[v, .int .u64 most] w fun r w' => r = .returned (.int .u64 0) ∧ Below w.heap.size w w' := by
  have HB := Lib.hid (below_one w (.cells #[.int .u64 most] 30))
  have HR := Lib.hid (fun f => readU_shut (w.alloc (.cells #[.int .u64 most] 30)) v f e (h.below HB.out))
  clear h
  go_enter Try.func70, Try.ntmps70
  go_wp2_with fail
  refine (HR.out _).mono ?_; rintro r w2 ⟨rfl, rfl⟩
  go_wp2_with fail
  go_ret
  exact ⟨rfl, HB.out⟩
theorem inT_any (w : World) (N : Nat) (b : List Int) (p : Nat) (most : Int) (h : InAt w N b p 0)  :
    Calls Try.prog 69 #[.pointer (some ⟨N, 0, none⟩), .int .i64 most] w (ReadP (fun v _ => v = .string (strB (tN most (getT (b.drop p) [] 0)).1)) w N b p (tN most (getT (b.drop p) [] 0)).2.1 (tN most (getT (b.drop p) [] 0)).2.2) := by
  have HB := Lib.hid (below_one w (.cells #[.int .i64 most] 3))
  have HR := Lib.hid (readT_any (w.alloc (.cells #[.int .i64 most] 3)) N b p w.heap.size most (h.below HB.out) (by simp [go_sem]))
  clear h
  generalize tN most (getT (b.drop p) [] 0) = rr at *
  go_enter Try.func69, Try.ntmps69
  go_wp2_with fail
  refine (HR.out).mono ?_; intro r w2 hr
  have hr := hr.from HB.out
  obtain ⟨⟨v, rfl, rfl⟩, hr2⟩ := hr
  have HQ := Lib.hid hr2
  clear hr2
  go_wp2_with fail
  go_ret
  exact ⟨⟨_, rfl, rfl⟩, HQ.out⟩
theorem inT_shut (w : World) (v : Value) (e : Nat) (most : Int) (h : Shut v e w) :
    Calls Try.prog 69 #[v, .int .i64 most] w fun r w' => r = .returned (.string ⟨#[]⟩) ∧ Below w.heap.size w w' := by
  have HB := Lib.hid (below_one w (.cells #[.int .i64 most] 3))
  have HR := Lib.hid (fun f => readT_shut (w.alloc (.cells #[.int .i64 most] 3)) v f e (h.below HB.out))
  clear h
  go_enter Try.func69, Try.ntmps69
  go_wp2_with fail
  refine (HR.out _).mono ?_; rintro r w2 ⟨rfl, rfl⟩
  go_wp2_with fail
  go_ret
  exact ⟨rfl, HB.out⟩
end Go.Proofs.Ytdlebcjkokabjaa
