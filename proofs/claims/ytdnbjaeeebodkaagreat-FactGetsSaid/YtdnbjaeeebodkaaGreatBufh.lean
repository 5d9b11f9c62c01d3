/- The statement's read: what a reader that goes on answers. -/
import Derived.Test.YtdnbjaeeebodkaaGreatBufe
namespace Go.Proofs.YtdnbjaeeebodkaaGreat
set_option maxRecDepth 100000
open Go.RowKit
set_option linter.unusedVariables false
theorem ReadP.from {V : Value → World → Prop} {w w1 w' : World} {N : Nat} {b : List Int} {p n e : Nat} {r : Ending} (h : ReadP V w1 N b p n e r w') (hb : Below w.heap.size w w1) : ReadP V w N b p n e r w' :=
  ⟨h.1, h.2.1, grown_then (grown_below hb (some N)) h.2.2⟩
theorem inU_any (w : World) (N : Nat) (b : List Int) (p : Nat) (most : Int) (h : InAt w N b p 0)  :
    Calls Tryz.prog 14 #[.pointer (some ⟨N, 0, none⟩), .int .u64 most] w (ReadP (fun v _ => v = .int .u64 (uN most (getU (b.drop p))).1) w N b p (uN most (getU (b.drop p))).2.1 (uN most (getU (b.drop p))).2.2) := by
  have HB := Lib.hid (below_one w (.cells #[.int .u64 most] 52))
  have HR := Lib.hid (readU_any (w.alloc (.cells #[.int .u64 most] 52)) N b p w.heap.size most (h.below HB.out) (by simp [go_sem]))
  clear h
  generalize uN most (getU (b.drop p)) = rr at *
  go_enter Tryz.func14, Tryz.ntmps14
  go_wp2_with fail
  refine (HR.out).mono ?_; intro r w2 hr
  have hr := hr.from HB.out
  obtain ⟨⟨v, rfl, rfl⟩, hr2⟩ := hr
  have HQ := Lib.hid hr2
  clear hr2
  go_wp2_with fail
  go_ret
  exact ⟨⟨_, rfl, rfl⟩, HQ.out⟩
theorem inU_shut (w : World) (v : Value) (e : Nat) (most : Int) (h : Shut v e w) :
    Calls Tryz.prog 14 #[v, .int .u64 most] w fun r w' => r = .returned (.int .u64 0) ∧ Below w.heap.size w w' := by
  have HB := Lib.hid (below_one w (.cells #[.int .u64 most] 52))
  have HR := Lib.hid (fun f => readU_shut (w.alloc (.cells #[.int .u64 most] 52)) v f e (h.below HB.out))
  clear h
  go_enter Tryz.func14, Tryz.ntmps14
  go_wp2_with fail
  refine (HR.out _).mono ?_; rintro r w2 ⟨rfl, rfl⟩
  go_wp2_with fail
  go_ret
  exact ⟨rfl, HB.out⟩
theorem inI_any (w : World) (N : Nat) (b : List Int) (p : Nat)  (h : InAt w N b p 0)  :
    Calls Tryz.prog 51 #[.pointer (some ⟨N, 0, none⟩)] w (ReadP (fun v _ => v = .int .i64 (getI (b.drop p)).1) w N b p (getI (b.drop p)).2.1 (getI (b.drop p)).2.2) := by
  have HB := Lib.hid (Below.refl w.heap.size w)
  have HR := Lib.hid (readI_any w N b p h)
  clear h
  generalize getI (b.drop p) = rr at *
  go_enter Tryz.func51, Tryz.ntmps51
  go_wp2_with fail
  refine (HR.out).mono ?_; intro r w2 hr
  have hr := hr.from HB.out
  obtain ⟨⟨v, rfl, rfl⟩, hr2⟩ := hr
  have HQ := Lib.hid hr2
  clear hr2
  go_wp2_with fail
  go_ret
  exact ⟨⟨_, rfl, rfl⟩, HQ.out⟩
theorem inI_shut (w : World) (v : Value) (e : Nat)  (h : Shut v e w) :
    Calls Tryz.prog 51 #[v] w fun r w' => r = .returned (.int .i64 0) ∧ Below w.heap.size w w' := by
  have HB := Lib.hid (Below.refl w.heap.size w)
  have HR := Lib.hid (fun f => readI_shut w v f e h)
  clear h
  go_enter Tryz.func51, Tryz.ntmps51
  go_wp2_with fail
  refine (HR.out _).mono ?_; rintro r w2 ⟨rfl, rfl⟩
  go_wp2_with fail
  go_ret
  exact ⟨rfl, HB.out⟩
theorem inF_any (w : World) (N : Nat) (b : List Int) (p : Nat)  (h : InAt w N b p 0)  :
    Calls Tryz.prog 53 #[.pointer (some ⟨N, 0, none⟩)] w (ReadP (fun v _ => v = .float .f64 (if (fN (getF (b.drop p))).2.2 = 0 then fromN (fN (getF (b.drop p))).1 else 0)) w N b p (fN (getF (b.drop p))).2.1 (fN (getF (b.drop p))).2.2) := by
  have HB := Lib.hid (Below.refl w.heap.size w)
  have HR := Lib.hid (readF_any w N b p h)
  clear h
  generalize fN (getF (b.drop p)) = rr at *
  generalize (if rr.2.2 = 0 then fromN rr.1 else 0) = y at *
  go_enter Tryz.func53, Tryz.ntmps53
  go_wp2_with fail
  refine (HR.out).mono ?_; intro r w2 hr
  have hr := hr.from HB.out
  obtain ⟨⟨v, rfl, rfl⟩, hr2⟩ := hr
  have HQ := Lib.hid hr2
  clear hr2
  go_wp2_with fail
  go_ret
  exact ⟨⟨_, rfl, rfl⟩, HQ.out⟩
theorem inF_shut (w : World) (v : Value) (e : Nat)  (h : Shut v e w) :
    Calls Tryz.prog 53 #[v] w fun r w' => r = .returned (.float .f64 0) ∧ Below w.heap.size w w' := by
  have HB := Lib.hid (Below.refl w.heap.size w)
  have HR := Lib.hid (fun f => readF_shut w v f e h)
  clear h
  go_enter Tryz.func53, Tryz.ntmps53
  go_wp2_with fail
  refine (HR.out _).mono ?_; rintro r w2 ⟨rfl, rfl⟩
  go_wp2_with fail
  go_ret
  exact ⟨rfl, HB.out⟩
set_option maxRecDepth 100000
open Go.RowKit
set_option linter.unusedVariables false
abbrev askO (d u i : Int) (f : Nat) (t : ByteArray) (m : Int) : Obj := .cells #[.int .i64 d, .int .u64 u, .int .i64 i, .float .f64 f, .string t, .int .i64 m] 67
abbrev gotO (u i : Int) (t : ByteArray) (n e : Int) : Obj := .cells #[.int .u64 u, .int .i64 i, .string t, .int .i64 n, .int .i64 e] 63
abbrev askV (d u i : Int) (f : Nat) (t : ByteArray) (m : Int) : Value := .agg #[.int .i64 d, .int .u64 u, .int .i64 i, .float .f64 f, .string t, .int .i64 m]
abbrev gotV (u i : Int) (t : ByteArray) (n e : Int) : Value := .agg #[.int .u64 u, .int .i64 i, .string t, .int .i64 n, .int .i64 e]
/-- What the statement's read leaves. -/
def RdP (w : World) (N : Nat) (b : List Int) (p n e : Nat) (r : Ending) (w' : World) : Prop := r = .returned (.bool true) ∧ InAt w' N b (if e = 0 then p + n else p) e ∧ w.grownBy w' (some N)
theorem two_below (w : World) (o1 o2 : Obj) : Below w.heap.size w ((w.alloc o1).alloc o2) := below_then (below_one w o1) (below_one _ o2)
theorem cell_far {w w' : World} {N : Nat} {a : Addr} {v : Value} (hg : w.grownBy w' (some N)) (h : w.cell? a = some v) (hne : a.block ≠ N) : w'.cell? a = some v := by
  rw [hg.cell_far a (World.block_lt_of_cell? w a h) (by simpa using hne)]; exact h
theorem box_cells (w : World) (d u i : Int) (f : Nat) (t : ByteArray) (m gu gi : Int) (gt : ByteArray) (gn ge : Int) (W : World) (hW : (w.alloc (askO d u i f t m)).alloc (gotO gu gi gt gn ge) = W) :
    (W.cell? ⟨w.heap.size, 1, none⟩ = some (.int .u64 u) ∧ W.cell? ⟨w.heap.size, 5, none⟩ = some (.int .i64 m)) ∧
    W.cell? ⟨w.heap.size + 1, 0, none⟩ = some (.int .u64 gu) ∧ W.cell? ⟨w.heap.size + 1, 1, none⟩ = some (.int .i64 gi) ∧ W.cell? ⟨w.heap.size + 1, 2, none⟩ = some (.string gt) ∧ W.cell? ⟨w.heap.size + 1, 3, none⟩ = some (.int .i64 gn) ∧ Below w.heap.size w W := by
  subst hW
  refine ⟨⟨?_, ?_⟩, ?_, ?_, ?_, ?_, two_below w _ _⟩
  · rw [(below_one (w.alloc (askO d u i f t m)) _).cell (by simp)]; simp [go_sem]
  · rw [(below_one (w.alloc (askO d u i f t m)) _).cell (by simp)]; simp [go_sem]
  all_goals simp [go_sem]
theorem bN_bt {most : Int} {b : List Int} (hb : Bt b) : Bt (bN most b).1 := by
  unfold bN
  split
  · exact bt_nil
  · split
    · exact bt_nil
    · split
      · exact bt_nil
      · exact fun x hx => hb x (List.mem_of_mem_drop (List.mem_of_mem_take hx))
end Go.Proofs.YtdnbjaeeebodkaaGreat
