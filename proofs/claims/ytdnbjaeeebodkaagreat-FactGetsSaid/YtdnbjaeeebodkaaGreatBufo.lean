/- The writer's bytes. -/
import Derived.Test.YtdnbjaeeebodkaaGreatBufd
import Derived.Test.YtdnbjaeeebodkaaGreatCodee
import Derived.Laws.CopyRow
import Derived.Laws.IdiomCopy
import Derived.Laws.OwnMore
import Derived.Laws.MakeOwn
namespace Go.Proofs.YtdnbjaeeebodkaaGreat
set_option maxRecDepth 100000
open Go.RowKit
set_option linter.unusedVariables false
/-- The three cells of a writer. -/
def Out3 (w : World) (N : Nat) (v : Value) (s : Nat) : Prop := w.heap[N]? = some (.cells #[v, .int .i64 s, .bool true] 116 (0, 0))
theorem Out3.reads {w : World} {N : Nat} {v : Value} {s : Nat} (h : Out3 w N v s) :
    w.cell? ⟨N, 0, none⟩ = some v ∧ w.cell? ⟨N, 1, none⟩ = some (.int .i64 s) ∧ w.cell? ⟨N, 2, none⟩ = some (.bool true) := by
  unfold Out3 at h
  refine ⟨by simp [World.cell?, h], by simp [World.cell?, h], by simp [World.cell?, h]⟩
theorem Out3.free {w : World} {N : Nat} {v : Value} {s : Nat} (h : Out3 w N v s) : w.frozen? ⟨N, 0, none⟩ = false ∧ w.frozen? ⟨N, 1, none⟩ = false := by
  unfold Out3 at h
  refine ⟨by simp [World.frozen?, h], by simp [World.frozen?, h]⟩
theorem Out3.lt {w : World} {N : Nat} {v : Value} {s : Nat} (h : Out3 w N v s) : N < w.heap.size := (Array.getElem?_eq_some_iff.1 h).1
theorem Out3.below {w w' : World} {N : Nat} {v : Value} {s : Nat} (h : Out3 w N v s) (hb : Below w.heap.size w w') : Out3 w' N v s := by
  unfold Out3; rw [hb.block N h.lt]; exact h
/-- The encodings that were kept, the last one first. -/
def Chain (w : World) : Value → List (List Int) → Prop
  | v, [] => v = .pointer none
  | v, e :: r => ∃ M d u, v = .pointer (some ⟨M, 0, none⟩) ∧ w.heap[M]? = some (.cells #[u, d] 119 (0, 0)) ∧ 0 < e.length ∧ Ints .u8 w d e ∧ Typed 5 w d ∧ Chain w u r
theorem Chain.below {w w' : World} (hb : Below w.heap.size w w') : ∀ {L : List (List Int)} {v : Value}, Chain w v L → Chain w' v L
  | [], _, h => h
  | e :: r, v, ⟨M, d, u, h1, h2, h0, h3, h4, h5⟩ => ⟨M, d, u, h1, by rw [hb.block M (Array.getElem?_eq_some_iff.1 h2).1]; exact h2, h0, h3.below hb, h4.below hb, h5.below hb⟩
theorem Chain.grown {w w' : World} {N : Nat} {x : Value} {s : Nat} (ho : Out3 w N x s) (hg : w.grownBy w' (some N)) : ∀ {L : List (List Int)} {v : Value}, Chain w v L → Chain w' v L
  | [], _, h => h
  | e :: r, v, ⟨M, d, u, h1, h2, h0, h3, h4, h5⟩ => by
    have hne : M ≠ N := by
      rintro rfl
      unfold Out3 at ho
      rw [h2] at ho
      simp only [Option.some.injEq, Obj.cells.injEq] at ho
      exact absurd ho.2.1 (by decide)
    refine ⟨M, d, u, h1, ?_, h0, h3.grown h4 ho (by decide) hg, h4.grown ho (by decide) hg, h5.grown ho hg⟩
    rw [hg.block M (Array.getElem?_eq_some_iff.1 h2).1 (by simpa using hne)]; exact h2
def catR : List (List Int) → List Int
  | [] => []
  | e :: r => catR r ++ e
/-- A writer of these encodings. -/
def OutAt (w : World) (N : Nat) (L : List (List Int)) : Prop := ∃ v, Out3 w N v (catR L).length ∧ Chain w v L
theorem OutAt.below {w w' : World} {N : Nat} {L : List (List Int)} (h : OutAt w N L) (hb : Below w.heap.size w w') : OutAt w' N L := by
  obtain ⟨v, h1, h2⟩ := h
  exact ⟨v, h1.below hb, h2.below hb⟩
theorem OutAt.lt {w : World} {N : Nat} {L : List (List Int)} (h : OutAt w N L) : N < w.heap.size := by obtain ⟨v, h1, h2⟩ := h; exact h1.lt
/-- An encoding more. -/
theorem OutAt.more {w : World} {N : Nat} {L : List (List Int)} {x : Value} {d : Value} {e : List Int} (h1 : Out3 w N x (catR L).length) (h2 : Chain w x L) (hd : Ints .u8 w d e) (ht : Typed 5 w d) (he : 0 < e.length) (o : Obj) (ho : o = .cells #[x, d] 119) (q : Int) (hq : q = (catR (e :: L)).length) :
    OutAt (((w.setCell ⟨N, 0, none⟩ (.pointer (some ⟨w.heap.size, 0, none⟩))).setCell ⟨N, 1, none⟩ (.int .i64 q)).alloc o) N (e :: L) ∧ w.grownBy (((w.setCell ⟨N, 0, none⟩ (.pointer (some ⟨w.heap.size, 0, none⟩))).setCell ⟨N, 1, none⟩ (.int .i64 q)).alloc o) (some N) := by
  subst ho hq
  have g := grown_then (grown_set w N 0 (.pointer (some ⟨w.heap.size, 0, none⟩))) (grown_set (w.setCell ⟨N, 0, none⟩ (.pointer (some ⟨w.heap.size, 0, none⟩))) N 1 (.int .i64 ((catR (e :: L)).length : Nat)))
  have e1 := heap_setCell_same _ N 0 _ _ (.pointer (some ⟨w.heap.size, 0, none⟩)) h1
  have e2 := heap_setCell_same _ N 1 _ _ (.int .i64 ((catR (e :: L)).length : Nat)) e1
  have hsz : ((w.setCell ⟨N, 0, none⟩ (.pointer (some ⟨w.heap.size, 0, none⟩))).setCell ⟨N, 1, none⟩ (.int .i64 ((catR (e :: L)).length : Nat))).heap.size = w.heap.size := by simp [World.setCell]
  have k2 := h2.grown h1 g
  have k3 := hd.grown ht h1 (by decide) g
  have k4 := ht.grown h1 (by decide) g
  generalize (w.setCell ⟨N, 0, none⟩ (.pointer (some ⟨w.heap.size, 0, none⟩))).setCell ⟨N, 1, none⟩ (.int .i64 ((catR (e :: L)).length : Nat)) = W at *
  have hb := below_one W (.cells #[x, d] 119)
  have hn := heap_alloc_new W (.cells #[x, d] 119)
  have k1 : Out3 W N (.pointer (some ⟨w.heap.size, 0, none⟩)) (catR (e :: L)).length := e2
  rw [hsz] at hn
  exact ⟨⟨_, k1.below hb, w.heap.size, d, x, rfl, hn, he, k3.below hb, k4.below hb, k2.below hb⟩, grown_then g (grown_below hb (some N))⟩
/-- A writer that was not made, or none. -/
def NoOut (w : World) (v : Value) : Prop := v = .pointer none ∨ ∃ N, v = .pointer (some ⟨N, 0, none⟩) ∧ w.heap[N]? = some (.cells #[.pointer none, .int .i64 0, .bool false] 116 (0, 0))
theorem NoOut.below {w w' : World} {v : Value} (h : NoOut w v) (hb : Below w.heap.size w w') : NoOut w' v := by
  rcases h with rfl | ⟨N, rfl, h⟩
  · exact .inl rfl
  · exact .inr ⟨N, rfl, by rw [hb.block N (Array.getElem?_eq_some_iff.1 h).1]; exact h⟩
theorem usable_any (w : World) (N : Nat) (L : List (List Int)) (h : OutAt w N L) :
    Calls Tryz.prog 70 #[.pointer (some ⟨N, 0, none⟩)] w fun r w' => r = .returned (.bool true) ∧ w = w' := by
  obtain ⟨v, h1, -⟩ := h
  obtain ⟨r0, r1, r2⟩ := h1.reads
  clear h1
  go_enter Tryz.func70, Tryz.ntmps70
  go_wp2_with fail
  go_ret
  exact ⟨rfl, rfl⟩
theorem usable_no (w : World) (v : Value) (h : NoOut w v) :
    Calls Tryz.prog 70 #[v] w fun r w' => r = .returned (.bool false) ∧ w = w' := by
  rcases h with rfl | ⟨N, rfl, h⟩
  · go_enter Tryz.func70, Tryz.ntmps70
    go_wp2_with fail
    go_ret
    exact ⟨rfl, rfl⟩
  · have r3 : w.cell? ⟨N, 2, none⟩ = some (.bool false) := by simp [World.cell?, h]
    clear h
    go_enter Tryz.func70, Tryz.ntmps70
    go_wp2_with fail
    go_ret
    exact ⟨rfl, rfl⟩
theorem put_no (w : World) (v d : Value) (h : NoOut w v) :
    Calls Tryz.prog 66 #[v, d] w fun r w' => r = .returned (.tuple #[]) ∧ w = w' := by
  have HU := Lib.hid (usable_no w v h)
  clear h
  go_enter Tryz.func66, Tryz.ntmps66
  go_wp2_with fail
  refine (HU.out).mono ?_; rintro r w1 ⟨rfl, rfl⟩
  go_wp2_with fail
  exact bodyPost_ret (results_none rfl _ _ _) rfl ⟨rfl, rfl⟩
/-- What a writing function leaves. -/
def PutP (w : World) (N : Nat) (L : List (List Int)) (e : List Int) (r : Ending) (w' : World) : Prop := r = .returned (.tuple #[]) ∧ OutAt w' N (e :: L) ∧ w.grownBy w' (some N)
theorem put_any (w : World) (N : Nat) (L : List (List Int)) (d : Value) (e : List Int) (h : OutAt w N L) (hd : Ints .u8 w d e) (ht : Typed 5 w d) (he : 0 < e.length) (hl : (catR (e :: L)).length ≤ 2000000) :
    Calls Tryz.prog 66 #[.pointer (some ⟨N, 0, none⟩), d] w (PutP w N L e) := by
  have HU := Lib.hid (usable_any w N L h)
  obtain ⟨x, h1, h2⟩ := h
  have hlen : (catR (e :: L)).length = (catR L).length + e.length := by simp [catR]
  have HM := Lib.hid (OutAt.more h1 h2 hd ht he _ rfl ((catR L).length + e.length) (by rw [hlen]; rfl))
  obtain ⟨r0, r1, r2⟩ := h1.reads
  obtain ⟨f0, f1⟩ := h1.free
  have hN := h1.lt
  have hne : w.heap.size ≠ N := by omega
  have i1 : IntKind.i64.wrap (((catR L).length : Int) + (e.length : Int)) = ((catR L).length : Int) + e.length := IntWalk.i64_in _ (by omega)
  obtain ⟨a, cap, rfl, -, -⟩ := hd
  have hx : ∃ p, x = .pointer p := by
    cases L with
    | nil => exact ⟨_, h2⟩
    | cons e r => obtain ⟨M, d, u, hx, -⟩ := h2; exact ⟨_, hx⟩
  obtain ⟨p, rfl⟩ := hx
  generalize (catR L).length = s at *
  clear h1 h2 ht hl hlen
  go_enter Tryz.func66, Tryz.ntmps66
  go_wp2_with fail
  refine (HU.out).mono ?_; rintro r w1 ⟨rfl, rfl⟩
  go_wp2_with fail
  go_end0
  exact ⟨rfl, HM.out.1, HM.out.2⟩
set_option maxRecDepth 100000
open Go.RowKit
set_option linter.unusedVariables false
theorem outU_any (w : World) (N : Nat) (L : List (List Int)) (x : Nat) (hx : x < 18446744073709551616) (h : OutAt w N L) (hl : (catR (encU x :: L)).length ≤ 2000000) :
    Calls Tryz.prog 29 #[.pointer (some ⟨N, 0, none⟩), .int .u64 x] w (PutP w N L (encU x)) := by
  have HC := Lib.hid (pU_any x w hx)
  have HP := Lib.hid (fun d w1 (hb : Below w.heap.size w w1) (hd : Ints .u8 w1 d (encU x)) (ht : Typed 5 w1 d) => put_any w1 N L d (encU x) (h.below hb) hd ht (by simp [encU]) hl)
  clear h
  generalize encU x = e at *
  go_enter Tryz.func29, Tryz.ntmps29
  go_wp2_with fail
  refine (HC.out).mono ?_; intro r w1 hr
  obtain ⟨d, rfl, k1, k2, k3⟩ := hr.ints
  have HQ := Lib.hid (HP.out d w1 k3 k1 k2)
  have HB := Lib.hid k3
  obtain ⟨pa, pc, rfl, -, -⟩ := k1
  clear k2 k3 hr
  go_wp2_with fail
  refine (HQ.out).mono ?_; rintro r w2 ⟨rfl, h1, h2⟩
  go_wp2_with fail
  go_end0
  exact ⟨rfl, h1, grown_then (grown_below HB.out (some N)) h2⟩
theorem outU_no (w : World) (v : Value) (x : Nat) (hx : x < 18446744073709551616) (h : NoOut w v) :
    Calls Tryz.prog 29 #[v, .int .u64 x] w fun r w' => r = .returned (.tuple #[]) ∧ Below w.heap.size w w' := by
  have HC := Lib.hid (pU_any x w hx)
  have HP := Lib.hid (fun d w1 (hb : Below w.heap.size w w1) => put_no w1 v d (h.below hb))
  clear h
  generalize encU x = e at *
  go_enter Tryz.func29, Tryz.ntmps29
  go_wp2_with fail
  refine (HC.out).mono ?_; intro r w1 hr
  obtain ⟨d, rfl, k1, k2, k3⟩ := hr.ints
  have HQ := Lib.hid (HP.out d w1 k3)
  have HB := Lib.hid k3
  obtain ⟨pa, pc, rfl, -, -⟩ := k1
  clear k2 k3 hr
  go_wp2_with fail
  refine (HQ.out).mono ?_; rintro r w2 ⟨rfl, rfl⟩
  go_wp2_with fail
  go_end0
  exact ⟨rfl, HB.out⟩
theorem outI_any (w : World) (N : Nat) (L : List (List Int)) (x : Int) (h0 : -9223372036854775808 ≤ x) (h1 : x ≤ 9223372036854775807) (h : OutAt w N L) (hl : (catR (encI x :: L)).length ≤ 2000000) :
    Calls Tryz.prog 33 #[.pointer (some ⟨N, 0, none⟩), .int .i64 x] w (PutP w N L (encI x)) := by
  have HC := Lib.hid (pI_any x w h0 h1)
  have HP := Lib.hid (fun d w1 (hb : Below w.heap.size w w1) (hd : Ints .u8 w1 d (encI x)) (ht : Typed 5 w1 d) => put_any w1 N L d (encI x) (h.below hb) hd ht (by unfold encI; split <;> simp) hl)
  clear h
  generalize encI x = e at *
  go_enter Tryz.func33, Tryz.ntmps33
  go_wp2_with fail
  refine (HC.out).mono ?_; intro r w1 hr
  obtain ⟨d, rfl, k1, k2, k3⟩ := hr.ints
  have HQ := Lib.hid (HP.out d w1 k3 k1 k2)
  have HB := Lib.hid k3
  obtain ⟨pa, pc, rfl, -, -⟩ := k1
  clear k2 k3 hr
  go_wp2_with fail
  refine (HQ.out).mono ?_; rintro r w2 ⟨rfl, h1, h2⟩
  go_wp2_with fail
  go_end0
  exact ⟨rfl, h1, grown_then (grown_below HB.out (some N)) h2⟩
theorem outI_no (w : World) (v : Value) (x : Int) (h0 : -9223372036854775808 ≤ x) (h1 : x ≤ 9223372036854775807) (h : NoOut w v) :
    Calls Tryz.prog 33 #[v, .int .i64 x] w fun r w' => r = .returned (.tuple #[]) ∧ Below w.heap.size w w' := by
  have HC := Lib.hid (pI_any x w h0 h1)
  have HP := Lib.hid (fun d w1 (hb : Below w.heap.size w w1) => put_no w1 v d (h.below hb))
  clear h
  generalize encI x = e at *
  go_enter Tryz.func33, Tryz.ntmps33
  go_wp2_with fail
  refine (HC.out).mono ?_; intro r w1 hr
  obtain ⟨d, rfl, k1, k2, k3⟩ := hr.ints
  have HQ := Lib.hid (HP.out d w1 k3)
  have HB := Lib.hid k3
  obtain ⟨pa, pc, rfl, -, -⟩ := k1
  clear k2 k3 hr
  go_wp2_with fail
  refine (HQ.out).mono ?_; rintro r w2 ⟨rfl, rfl⟩
  go_wp2_with fail
  go_end0
  exact ⟨rfl, HB.out⟩
theorem outF_any (w : World) (N : Nat) (L : List (List Int)) (x k : Nat) (hx : W64 x) (hk : keyI x = (k : Int)) (h : OutAt w N L) (hl : (catR (encF k :: L)).length ≤ 2000000) :
    Calls Tryz.prog 35 #[.pointer (some ⟨N, 0, none⟩), .float .f64 x] w (PutP w N L (encF k)) := by
  have HC := Lib.hid (pF_any x k w hx hk)
  have HP := Lib.hid (fun d w1 (hb : Below w.heap.size w w1) (hd : Ints .u8 w1 d (encF k)) (ht : Typed 5 w1 d) => put_any w1 N L d (encF k) (h.below hb) hd ht (by unfold encF; rw [bigN_len]; decide) hl)
  clear h
  generalize encF k = e at *
  go_enter Tryz.func35, Tryz.ntmps35
  go_wp2_with fail
  refine (HC.out).mono ?_; intro r w1 hr
  obtain ⟨d, rfl, k1, k2, k3⟩ := hr.ints
  have HQ := Lib.hid (HP.out d w1 k3 k1 k2)
  have HB := Lib.hid k3
  obtain ⟨pa, pc, rfl, -, -⟩ := k1
  clear k2 k3 hr
  go_wp2_with fail
  refine (HQ.out).mono ?_; rintro r w2 ⟨rfl, h1, h2⟩
  go_wp2_with fail
  go_end0
  exact ⟨rfl, h1, grown_then (grown_below HB.out (some N)) h2⟩
theorem outF_no (w : World) (v : Value) (x k : Nat) (hx : W64 x) (hk : keyI x = (k : Int)) (h : NoOut w v) :
    Calls Tryz.prog 35 #[v, .float .f64 x] w fun r w' => r = .returned (.tuple #[]) ∧ Below w.heap.size w w' := by
  have HC := Lib.hid (pF_any x k w hx hk)
  have HP := Lib.hid (fun d w1 (hb : Below w.heap.size w w1) => put_no w1 v d (h.below hb))
  clear h
  generalize encF k = e at *
  go_enter Tryz.func35, Tryz.ntmps35
  go_wp2_with fail
  refine (HC.out).mono ?_; intro r w1 hr
  obtain ⟨d, rfl, k1, k2, k3⟩ := hr.ints
  have HQ := Lib.hid (HP.out d w1 k3)
  have HB := Lib.hid k3
  obtain ⟨pa, pc, rfl, -, -⟩ := k1
  clear k2 k3 hr
  go_wp2_with fail
  refine (HQ.out).mono ?_; rintro r w2 ⟨rfl, rfl⟩
  go_wp2_with fail
  go_end0
  exact ⟨rfl, HB.out⟩
set_option maxRecDepth 100000
open Go.RowKit
set_option linter.unusedVariables false
def RowAt (w : World) (G : Nat) (zs : List Int) : Prop := w.heap[G]? = some (.cells (zs.map (Value.int .u8)).toArray 5 (0, 0))
theorem RowAt.own {w : World} {B G : Nat} {zs : List Int} (h : RowAt w G zs) (hB : B ≤ G) (hl : zs.length ≤ maxLen) : BOwn w B (.slice (some ⟨G, 0, none⟩) zs.length zs.length) zs :=
  ⟨by simp, .inr ⟨G, zs.length, _, rfl, hB, h, Nat.le_refl _, hl, by simp, by rw [Nat.mul_one]; exact List.take_of_length_le (by simp)⟩⟩
theorem setRow_grown (w : World) (G : Nat) (cs : Array Value) : w.grownBy (w.setRow G cs) (some G) :=
  ⟨rfl, rfl, rfl, by simp [World.setRow], fun k _ hn => by
    have hk : G ≠ k := fun e => hn (by rw [e])
    simp [World.setRow, Array.getElem?_modify, hk]⟩
/-- A copy of bytes that lie elsewhere into a row. -/
theorem copy_step {w : World} {G o : Nat} {zs e : List Int} {a : Option Addr} {c : Nat} (hr : RowAt w G zs) (ho : o + e.length ≤ zs.length) (hs : Ints .u8 w (.slice a e.length c) e) :
    ∃ W' x, (∀ ty, (Builtin.copy_ #[27, 27] ty #[.slice (if zs.length = o then some ⟨G, 0, none⟩ else (some (⟨G, 0, none⟩ : Addr)).map (·.add (o * 1))) (zs.length - o) (zs.length - o), .slice a e.length c]).run Tryz.prog w = .ok x W') ∧
      RowAt W' G (zs.take o ++ e ++ zs.drop (o + e.length)) ∧ w.grownBy W' (some G) := by
  obtain ⟨i0, hi, hz0, hz1, hz2⟩ := info_parts Tryz.infoU8
  have hsz : (Tryz.prog.info? 5).map (·.size) = some 1 := by rw [hi]; simp [hz1]
  by_cases h0 : e.length = 0
  · have h1 : e = [] := List.length_eq_zero_iff.1 h0
    refine ⟨w, _, fun ty => run_copy_none (P := Tryz.prog) w _ _ ty 5 _ a _ _ _ _ Tryz.underlying27 hsz (by rw [h0]; exact Nat.zero_min _), ?_, World.grownBy.refl w _⟩
    subst h1
    simpa using hr
  · obtain ⟨a', cap', e1, hc, ha⟩ := hs
    simp only [Value.slice.injEq, true_and] at e1
    obtain ⟨rfl, rfl⟩ := e1
    rcases ha with h' | ⟨b, off, rfl, hb, hcell⟩
    · subst h'; simp at h0
    have hadd : (if zs.length = o then some (⟨G, 0, none⟩ : Addr) else (some (⟨G, 0, none⟩ : Addr)).map (·.add (o * 1))) = some ⟨G, o, none⟩ := by
      rw [if_neg (by omega), Nat.mul_one]
      by_cases k0 : o = 0
      · subst k0; simp [Addr.add]
      · simp [Addr.add, k0]
    rw [hadd]
    have hrun := fun ty => run_copy_row (P := Tryz.prog) w 27 27 ty 5 G o (zs.length - o) (zs.length - o) ⟨b, off, none⟩ e.length c _ _ (e.map (Value.int .u8)) Tryz.underlying27 hsz hr
      (by rw [List.length_map]; exact (Nat.min_eq_left (by omega)).symm)
      (fun j v hj => by
        rw [List.getElem?_map] at hj
        obtain ⟨x, hx, rfl⟩ := Option.map_eq_some_iff.1 hj
        have hl := (List.getElem?_eq_some_iff.1 hx).1
        have hh := hcell j hl
        have e1 : e.getD j 0 = x := by simp [List.getD, hx]
        rw [e1] at hh
        by_cases h0 : j = 0
        · subst h0; simpa [Addr.add] using hh
        · simpa [Addr.add, h0] using hh)
      (by simp; omega)
      (fun v hv => by obtain ⟨x, _, rfl⟩ := List.mem_map.1 hv; rfl)
    refine ⟨_, _, hrun, ?_, setRow_grown w G _⟩
    unfold RowAt
    rw [setRow_heap w G _ _ _ _ hr]
    simp [List.map_take, List.map_drop]
theorem bytes_no (w : World) (v : Value) (h : NoOut w v) :
    Calls Tryz.prog 36 #[v] w fun r w' => r = .returned (.slice none 0 0) ∧ w = w' := by
  have HU := Lib.hid (usable_no w v h)
  clear h
  go_enter Tryz.func36, Tryz.ntmps36
  go_wp2_with fail
  refine (HU.out).mono ?_; rintro r w1 ⟨rfl, rfl⟩
  go_wp2_with fail
  go_ret
  exact ⟨rfl, rfl⟩
def Done (w : World) (l : List Int) (G : Nat) (pv : Value) (R : List (List Int)) (wr : World) : Prop := ∃ tail, l = catR R ++ tail ∧ Chain w pv R ∧ RowAt wr G (List.replicate (catR R).length 0 ++ tail) ∧ Below w.heap.size w wr
theorem rep_take (a : Nat) (tail e : List Int) : (List.replicate (a + e.length) (0 : Int) ++ tail).take a ++ e ++ (List.replicate (a + e.length) (0 : Int) ++ tail).drop (a + e.length) = List.replicate a 0 ++ (e ++ tail) := by
  rw [List.take_append_of_le_length (by simp), List.drop_append_of_le_length (by simp), List.take_replicate, List.drop_replicate, Nat.min_eq_left (by omega), Nat.sub_self]
  simp
set_option maxHeartbeats 4000000 in
theorem bytes_any (w : World) (N : Nat) (L : List (List Int)) (h : OutAt w N L) (hl : (catR L).length ≤ 2000000) :
    Calls Tryz.prog 36 #[.pointer (some ⟨N, 0, none⟩)] w (BytesP w (catR L)) := by
  obtain ⟨i0, hi, hz0, hz1, hz2⟩ := info_parts Tryz.infoU8
  have HU := Lib.hid (usable_any w N L h)
  obtain ⟨x, h1, h2⟩ := h
  have hN := h1.lt
  have HL := Lib.hid hl
  have hmk := run_make (P := Tryz.prog) w 27 5 i0 (.int .u8 0) Tryz.underlying27 hi hz0 .i64 .i64 (catR L).length (catR L).length (by omega) (Int.le_refl _) (by rw [hz2]; omega) (by omega)
  have hrow : RowAt (w.alloc (.cells (madeCells (Value.int .u8 0).cells (((catR L).length : Int).toNat * i0.size)) 5)) w.heap.size (List.replicate (catR L).length 0) := by
    unfold RowAt
    rw [heap_alloc_new]
    congr 2
    apply Array.toList_inj.1
    rw [hz1, Nat.mul_one, Int.toNat_natCast, show (Value.int .u8 0).cells = #[Value.int .u8 0] from rfl, toList_madeCells_one]
    simp
  have hb1 := below_one w (.cells (madeCells (Value.int .u8 0).cells (((catR L).length : Int).toNat * i0.size)) 5)
  simp only [Int.toNat_natCast, hz1, Nat.mul_one, show (Value.int .u8 0).cells = #[Value.int .u8 0] from rfl] at hmk hrow hb1
  have h3 := (h1.below hb1).reads
  have HD := Lib.hid (show Done w (catR L) w.heap.size x L _ from ⟨[], by simp, h2, by simpa using hrow, hb1⟩)
  obtain ⟨r0, r1, r2⟩ := h1.reads
  obtain ⟨s0, s1, s2⟩ := h3
  have hx : ∃ p, x = .pointer p := by
    cases L with
    | nil => exact ⟨_, h2⟩
    | cons e r => obtain ⟨M, d, u, hx, -⟩ := h2; exact ⟨_, hx⟩
  obtain ⟨p, rfl⟩ := hx
  clear h1 h2 hrow hb1
  go_enter Tryz.func36, Tryz.ntmps36
  go_wp2_with fail
  refine (HU.out).mono ?_; rintro r w1 ⟨rfl, rfl⟩
  go_wp2_with fail
  have HG := Lib.hid (show w.heap.size < w.heap.size + 1 by omega)
  clear hmk s0 s1 s2
  go_loopw [4, 5] (fun ev pv wr => ∃ R, ev = .int .i64 ((catR R).length : Nat) ∧ (∃ p, pv = .pointer p) ∧ Hid (Done w (catR L) w.heap.size pv R wr)) (fun ev _ _ => (intOf ev).toNat)
  case atStart => exact ⟨L, rfl, ⟨_, rfl⟩, HD⟩
  case round =>
    obtain ⟨R, rfl, ⟨p2, rfl⟩, hD⟩ := hrel
    obtain ⟨tail, t1, t2, t3, t4⟩ := hD.out
    have hlen : (catR R).length ≤ 2000000 := by have := HL.out; rw [t1] at this; simp at this; omega
    cases R with
    | nil =>
      have hp : Value.pointer p2 = .pointer none := t2
      cases hp
      have HE := Lib.hid (show BytesP w (catR L) (.returned (.slice (some ⟨w.heap.size, 0, none⟩) (catR L).length (catR L).length)) wr from ⟨⟨_, rfl, by
        rw [t1]; exact RowAt.own (by simpa [catR] using t3) (Nat.le_refl _) (by have := HL.out; rw [t1] at this; unfold maxLen; simp [catR] at this ⊢; omega)⟩, t4⟩)
      clear t1 t2 t3 t4 hD HD
      go_wp2_with fail
      go_ret
      exact HE.out
    | cons e r =>
      obtain ⟨M, d, u, hp, hM, he, hd, ht, hc⟩ := t2
      cases hp
      have hx : ∃ p3, u = .pointer p3 := by
        cases r with
        | nil => exact ⟨_, hc⟩
        | cons e2 r2 => obtain ⟨_, _, _, hx, -⟩ := hc; exact ⟨_, hx⟩
      obtain ⟨p3, rfl⟩ := hx
      have hds := (hd.below t4)
      have hMs : M < w.heap.size := (Array.getElem?_eq_some_iff.1 hM).1
      have hM2 := (t4.block M hMs).trans hM
      obtain ⟨a, c, rfl, -, -⟩ := hd
      obtain ⟨o, ho⟩ : ∃ o, (catR r).length = o := ⟨_, rfl⟩
      have hcr : (catR (e :: r)).length = o + e.length := by simp [catR, ho]
      have hT : (catR L).length = o + e.length + tail.length := by rw [t1, List.length_append, hcr]
      have hcat : catR L = catR r ++ (e ++ tail) := by rw [t1]; simp [catR]
      rw [hcr] at t3
      obtain ⟨W', xv, hcp, hrow2, hgr⟩ := copy_step (w := wr.drew) (G := w.heap.size) (zs := List.replicate (o + e.length) 0 ++ tail) (o := o) (a := a) (c := c) (e := e) t3 (by simp) hds
      rw [rep_take] at hrow2
      have hzl : (List.replicate (o + e.length) (0 : Int) ++ tail).length = (catR L).length := by rw [hT]; simp
      rw [hzl] at hcp
      have hop := fun w' => run_from (w := w') (a := some ⟨w.heap.size, 0, none⟩) (cap := (catR L).length) (l := (catR L).length) (k := o) (by omega) size1
      have hbw : Below w.heap.size w W' := t4.drew.grown hgr t4.size (fun k hk => by have e : w.heap.size = k := Option.some.inj hk; omega)
      have HD2 := Lib.hid (show Done w (catR L) w.heap.size (.pointer p3) r W' from ⟨e ++ tail, hcat, hc, by rw [ho]; exact hrow2, hbw⟩)
      have hM3 := (hbw.block M hMs).trans hM
      have c0 : wr.cell? ⟨M, 1, none⟩ = some (.slice a e.length c) := by simp [World.cell?, hM2]
      have c1 : wr.drew.cell? ⟨M, 1, none⟩ = some (.slice a e.length c) := by simpa using c0
      have c2 : W'.cell? ⟨M, 0, none⟩ = some (.pointer p3) := by simp [World.cell?, hM3]
      have i1 : IntKind.i64.wrap ((o + e.length : Nat) - (e.length : Int)) = (o : Nat) := by rw [IntWalk.i64_in _ (by omega)]; omega
      have HM := Lib.hid (And.intro he hcr)
      rw [hcr] at hlen ⊢
      generalize (catR L).length = T at *
      have HO := Lib.hid (show Value.int .i64 (o : Int) = .int .i64 ((catR r).length : Nat) by rw [ho])
      clear ho
      generalize (if T = o then some (⟨w.heap.size, 0, none⟩ : Addr) else (some (⟨w.heap.size, 0, none⟩ : Addr)).map (·.add (o * 1))) = q at *
      clear hcat hc hrow2 hgr hds hM hM2 hM3 t1 t3 hD HD hcr hzl ht hT
      simp only [Int.natCast_add] at i1
      go_upto_region 9 with fail
      go_region
      go_wp2_with fail
      go_roundw
      case rel => exact ⟨r, HO.out, ⟨_, rfl⟩, HD2⟩
      case measure => have := HM.out.1; simp [intOf]; omega
end Go.Proofs.YtdnbjaeeebodkaaGreat
