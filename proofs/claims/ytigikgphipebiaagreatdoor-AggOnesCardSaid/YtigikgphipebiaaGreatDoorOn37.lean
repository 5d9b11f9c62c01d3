/- Contracts that the law leans on, pruned and merged: Keyg Aggi Faci Bufo Scif. -/
import Derived.BigQuiet
import Derived.Deep.QuietTactic
import Derived.Deep.RegionHeld3
import Derived.Laws.CopyRow
import Derived.Laws.IdiomCopy
import Derived.Laws.OwnMore
import Derived.Laws.MakeOwn
import Derived.Lib.ConvBytes
import Derived.Lib.SmallJoins
import Derived.Test.YtigikgphipebiaaGreatDoorOn07
import Derived.Test.YtigikgphipebiaaGreatDoorOn29
import Derived.Test.YtigikgphipebiaaGreatDoorOn31
import Derived.Test.YtigikgphipebiaaGreatDoorOn32
import Derived.Test.YtigikgphipebiaaGreatDoorOn34
import Derived.Test.YtigikgphipebiaaGreatDoorOn35
import Derived.Test.YtigikgphipebiaaGreatDoorOn36
/- Layer 13: the reference's Of, Codes, Down; its Sub of any two sets. -/
namespace Go.Proofs.YtigikgphipebiaaGreatDoor
set_option maxRecDepth 100000
open Go.RowKit
set_option linter.unusedVariables false
theorem rin_any (w : World) (m : Int) (n : Nat) (hn : n ≤ 31) (m0 : 0 ≤ m) (m1 : m ≤ 4294967295) :
    Calls Tryz.prog 40 #[.int .u32 m, .int .i64 n] w fun e w' => e = .returned (.bool (bitG m n)) ∧ w = w' := in_any w m n hn m0 m1
set_option maxHeartbeats 4000000 in
theorem krof_any (w : World) (D I M V u : Value) (S : Sc) (m : Int) (l : List Int) (h : Sch4 w D I M V S) (hu : Ints .i64 w u l) (hn : S.ds.length ≤ 31) (hl : l.length = S.ds.length) (hz : sizB S.ds = true) (hc : InG (dz S.ds) (cz l) (bitG m) S.ds.length) (m0 : 0 ≤ m) (m1 : m ≤ 4294967295) :
    Calls Tryz.prog 41 #[SchV D I M V, .int .u32 m, u] w fun e w' => e = .returned (.int .u64 (keyG (dz S.ds) (cz l) (bitG m) S.ds.length)) ∧ Below w.heap.size w w' := by
  have HB0 := Lib.hid (below_one w (SchO D I M V))
  have HX := Lib.hid (box_new w D I M V)
  have hd := h.d
  obtain ⟨⟨a, c, rfl⟩, ⟨a2, c2, rfl⟩, ⟨a3, c3, rfl⟩, a4, c4, rfl⟩ := h.slices
  obtain ⟨pu, cu, rfl, hcu, -⟩ := id hu
  have HU := Lib.hid hu
  obtain ⟨a', cap', e', h1, h2, h3⟩ := hd
  obtain ⟨rfl, rfl⟩ : a = a' ∧ c = cap' := by injection e' with e1 e2 e3; exact ⟨e1, e3⟩
  have HC := Lib.hid h3
  have HI := Lib.hid hc
  have HKn := Lib.hid (fun k => show keyG (dz S.ds) (cz l) (bitG m) (k + 1) = if bitG m k = true then keyG (dz S.ds) (cz l) (bitG m) k * dz S.ds k + cz l k else keyG (dz S.ds) (cz l) (bitG m) k from rfl)
  have HR := Lib.hid (key_step hz hc)
  have HZ := Lib.hid (fun k (hk : k < S.ds.length) => siz_get hz hk)
  have HH := Lib.hid (fun w k hk => rin_any w m k hk m0 m1)
  rw [hl] at hcu HU
  rw [hl]
  clear h h3 e' hz hc hu
  go_enter Tryz.func41, Tryz.ntmps41
  go_wp2_with fail
  generalize hW0 : w.alloc (SchO (.slice a S.ds.length c) (.slice a2 S.is.length c2) (.slice a3 S.ns.length c3) (.slice a4 S.vs.length c4)) = W0 at *
  clear hW0
  go_loopw [7, 8] (fun pv i wr => ∃ k : Nat, k ≤ S.ds.length ∧ i = .int .i64 k ∧ (∃ p : Int, pv = .int .u64 p ∧ 0 ≤ p ∧ p ≤ 1099511627776 ∧ Hid (p = keyG (dz S.ds) (cz l) (bitG m) k)) ∧ Hid (Below w.heap.size w wr ∧ Box wr w.heap.size (.slice a S.ds.length c) (.slice a2 S.is.length c2) (.slice a3 S.ns.length c3) (.slice a4 S.vs.length c4))) (fun _ i _ => S.ds.length - (intOf i).toNat)
  case atStart => exact ⟨0, Nat.zero_le _, rfl, ⟨0, rfl, by decide, by decide, Lib.hid rfl⟩, Lib.hid ⟨HB0.out, HX.out⟩⟩
  case round =>
    obtain ⟨k, hk, rfl, ⟨p, rfl, hp0, hp1, HE⟩, HB⟩ := hrel
    obtain ⟨x0, x1, x2, x3⟩ := HB.out.2.reads
    by_cases hlk : k < S.ds.length
    · rcases HC.out with h3 | ⟨b, off, rfl, hlt, hcell⟩
      · rw [h3] at hlk; simp at hlk
      obtain ⟨c0, c1⟩ := hcell k hlk
      have c1 : wr.cell? ⟨b, off + k * 2 + 1, none⟩ = _ := (HB.out.1.cell (p := ⟨b, off + k * 2 + 1, none⟩) hlt).trans c1
      obtain ⟨b2, o2, hp2, hb2, hc2⟩ := HU.out.cell (i := k) (by omega)
      subst hp2
      have hc2 := cell_later HB.out.1 hc2
      have hc3 : wr.cell? ⟨b2, o2 + k, none⟩ = some (.int .i64 (cz l k)) := hc2
      have HKk := Lib.hid (HKn.out k)
      have hz := HZ.out k hlk
      have hr := HR.out (k + 1) (by omega)
      have hI := HI.out k hlk
      have HHk := Lib.hid (fun w => HH.out w k (by omega))
      have hle : Hid (k + 1 ≤ S.ds.length) := Lib.hid (by omega)
      have hlk' : (k : Int) < (S.ds.length : Int) := by omega
      rw [← HE.out] at HKk
      clear hc2 c0 hcell
      generalize dz S.ds k = z at *
      generalize cz l k = y at *
      by_cases hbit : bitG m k = true
      · obtain ⟨y0, y1⟩ := hI hbit
        rw [hbit] at HHk
        rw [if_pos hbit] at HKk
        have hpz : 0 ≤ p * z := Int.mul_nonneg hp0 (by omega)
        rw [HKk.out] at hr
        have i1 : IntKind.u64.wrap z = z := by rw [IntKind.wrap_u64]; omega
        have i2 : IntKind.u64.wrap (p * z) = p * z := by rw [IntKind.wrap_u64]; omega
        have i3 : IntKind.u64.wrap y = y := by rw [IntKind.wrap_u64]; omega
        have i4 : IntKind.u64.wrap (p * z + y) = p * z + y := by rw [IntKind.wrap_u64]; omega
        have HE3 := Lib.hid hr
        clear hr hz hpz hI hbit y0 y1
        go_wp2_with fail
        refine (HHk.out _).mono ?_; rintro e w1 ⟨rfl, rfl⟩
        go_upto_region 6 with fail
        go_quiet (fail)
        have HB2 := Lib.hid (And.intro (below_drewN HB.out.1 nq) (show Box (wr.drewN nq) w.heap.size _ _ _ _ from HB.out.2))
        go_wp2
        go_roundw
        case rel => exact ⟨k + 1, hle.out, by go_num, ⟨p * z + y, rfl, HE3.out.1, HE3.out.2, Lib.hid HKk.out.symm⟩, HB2⟩
        case measure => simp [intOf]; omega
      · rw [eq_false_of_ne_true hbit] at HHk
        rw [if_neg hbit] at HKk
        clear hr hz hI hbit hc3 c1
        go_wp2_with fail
        refine (HHk.out _).mono ?_; rintro e w1 ⟨rfl, rfl⟩
        go_wp2_with fail
        go_roundw
        case rel => exact ⟨k + 1, hle.out, by go_num, ⟨p, rfl, hp0, hp1, Lib.hid HKk.out.symm⟩, HB⟩
        case measure => simp [intOf]; omega
    · have : k = S.ds.length := by omega
      subst this
      have HE2 := Lib.hid HE.out
      clear HE
      go_wp2_with fail
      go_ret
      rw [HE2.out]
      exact ⟨rfl, HB.out.1⟩
end Go.Proofs.YtigikgphipebiaaGreatDoor
/- Layer 14: opening a cell, two cells, a fact. -/
namespace Go.Proofs.YtigikgphipebiaaGreatDoor
set_option maxRecDepth 100000
open Go.ChangeShapes Go.WideShapes Go.ChangeAt Go.RowKit Go.Deep
set_option linter.unusedVariables false
section
variable {H : Type} {enc : TypeId × Value → H} {w : World} {base : Nat} {spare : Nat → Bool} {held : Bool}
theorem fact_of {r : Reach} {b0 : Nat} {v : Value} {d : DataW H} {p : List MemPlace}
    (hv : Value.okWide Tryz.prog w r b0 32 v) (h : DataW.Trod enc Tryz.prog w base spare held 32 v d p) :
    ∃ C J X f, v = FactV C J X ∧ Fact3 w C J X f ∧ FaWf f := by
  obtain ⟨cs, rfl, hsz⟩ := okWide_struct Tryz.underlying32 hv
  obtain ⟨fuel, h⟩ := h
  obtain ⟨C, J, X, f, e, h3, hwf⟩ := read_three Tryz.underlying32 (by kernel_rfl) rfl rfl rfl Tryz.underlying28 Tryz.underlying29 Tryz.underlying30 (by kernel_rfl) (by kernel_rfl) (by kernel_rfl)
      Tryz.underlying3 Tryz.underlying2 Tryz.underlying59 (by kernel_rfl) (by kernel_rfl) (by kernel_rfl) h
  obtain ⟨l⟩ := cs
  have e2 : l = [C, J, X] := by simpa [Value.cells] using e
  subst e2
  exact ⟨C, J, X, f, rfl, h3, hwf⟩
end
end Go.Proofs.YtigikgphipebiaaGreatDoor
/- Layer 12: the reference's All, Light. -/
namespace Go.Proofs.YtigikgphipebiaaGreatDoor
set_option maxRecDepth 100000
open Go.RowKit
set_option linter.unusedVariables false
/-- A block of a fact's three slices. -/
abbrev FaO (C I N : Value) : Obj := .cells #[C, I, N] 32
def FBox (w : World) (K : Nat) (C I N : Value) : Prop := w.heap[K]? = some (.cells #[C, I, N] 32 (0, 0))
theorem FBox.reads {w : World} {K : Nat} {C I N : Value} (h : FBox w K C I N) : w.cell? ⟨K, 0, none⟩ = some C ∧ w.cell? ⟨K, 1, none⟩ = some I ∧ w.cell? ⟨K, 2, none⟩ = some N := by
  unfold FBox at h
  refine ⟨by simp [World.cell?, h], by simp [World.cell?, h], by simp [World.cell?, h]⟩
theorem FBox.free {w : World} {K : Nat} {C I N : Value} (h : FBox w K C I N) : w.frozen? ⟨K, 0, none⟩ = false ∧ w.frozen? ⟨K, 1, none⟩ = false ∧ w.frozen? ⟨K, 2, none⟩ = false := by
  unfold FBox at h
  refine ⟨by simp [World.frozen?, h], by simp [World.frozen?, h], by simp [World.frozen?, h]⟩
theorem FBox.lt {w : World} {K : Nat} {C I N : Value} (h : FBox w K C I N) : K < w.heap.size := (Array.getElem?_eq_some_iff.1 h).1
theorem FBox.below {w w' : World} {K : Nat} {C I N : Value} (h : FBox w K C I N) (hb : Below w.heap.size w w') : FBox w' K C I N := by
  unfold FBox; rw [hb.block K h.lt]; exact h
theorem FBox.grown {w w' : World} {K M : Nat} {C I N : Value} (h : FBox w K C I N) (hg : w.grownBy w' (some M)) (hne : K ≠ M) : FBox w' K C I N := by
  unfold FBox; rw [hg.block K h.lt (by simpa using hne)]; exact h
theorem FBox.set0 {w : World} {K : Nat} {C I N u : Value} (h : FBox w K C I N) : FBox (w.setCell ⟨K, 0, none⟩ u) K u I N := heap_setCell_same w K 0 _ _ u h
theorem FBox.set1 {w : World} {K : Nat} {C I N u : Value} (h : FBox w K C I N) : FBox (w.setCell ⟨K, 1, none⟩ u) K C u N := heap_setCell_same w K 1 _ _ u h
theorem fbox_new (w : World) (C I N : Value) : FBox (w.alloc (FaO C I N)) w.heap.size C I N := heap_alloc_new w _
set_option maxRecDepth 100000
open Go.RowKit
set_option linter.unusedVariables false
set_option maxRecDepth 100000
open Go.RowKit
set_option linter.unusedVariables false
/-- One of the two. -/
def EitherB (e : Ending) : Prop := ∃ b : Bool, e = .returned (.bool b)
set_option maxHeartbeats 4000000 in
theorem flight_any (w : World) (v : Value) (l : List Fa) (h : Facts w v l) :
    Calls Tryz.prog 9 #[v] w fun e w' => EitherB e ∧ w = w' := by
  obtain ⟨a, cap, rfl, h1, hmx, h3⟩ := h
  have HC := Lib.hid h3
  clear h3
  go_enter Tryz.func9, Tryz.ntmps9
  go_wp2_with fail
  go_loopw [3] (fun i wr => ∃ k : Nat, k ≤ l.length ∧ i = .int .i64 k ∧ Hid (w = wr)) (fun i _ => l.length - (intOf i).toNat)
  case atStart => exact ⟨0, Nat.zero_le _, rfl, Lib.hid rfl⟩
  case round =>
    obtain ⟨k, hk, rfl, HD⟩ := hrel
    obtain rfl := HD.out
    by_cases hlk : k < l.length
    · have hlk' : (k : Int) < (l.length : Int) := by omega
      rcases HC.out with h3 | ⟨b, off, rfl, hlt, hc⟩
      · rw [h3] at hlk; simp at hlk
      obtain ⟨C, I, N, hx, hf⟩ := hc k hlk
      obtain ⟨⟨pa, pc, rfl⟩, ⟨pa2, pc2, rfl⟩, pa3, pc3, rfl⟩ := hf.slices
      obtain ⟨x0, x1, x2⟩ := hx
      clear hc hf
      generalize l[k].cs.length = s1 at *
      generalize l[k].is.length = s2 at *
      generalize l[k].ns.length = s3 at *
      by_cases c1 : (20 : Int) < s1
      · have e1 : decide ((20 : Int) < s1) = true := decide_eq_true c1
        go_wp2_with fail
        go_ret
        exact ⟨⟨_, rfl⟩, rfl⟩
      · have e1 : decide ((20 : Int) < s1) = false := decide_eq_false c1
        by_cases c2 : (20 : Int) < s2
        · have e2 : decide ((20 : Int) < s2) = true := decide_eq_true c2
          go_wp2_with fail
          go_ret
          exact ⟨⟨_, rfl⟩, rfl⟩
        · have e2 : decide ((20 : Int) < s2) = false := decide_eq_false c2
          by_cases c3 : (20 : Int) < s3
          · have e3 : decide ((20 : Int) < s3) = true := decide_eq_true c3
            go_wp2_with fail
            go_ret
            exact ⟨⟨_, rfl⟩, rfl⟩
          · have e3 : decide ((20 : Int) < s3) = false := decide_eq_false c3
            go_wp2_with fail
            go_roundw
            case rel => exact ⟨k + 1, by omega, by go_num, Lib.hid True.intro⟩
            case measure => simp [intOf]; omega
    · have hke : k = l.length := by omega
      subst hke
      go_wp2_with fail
      go_ret
      exact ⟨⟨_, rfl⟩, rfl⟩
end Go.Proofs.YtigikgphipebiaaGreatDoor
/- The writer's bytes. -/
namespace Go.Proofs.YtigikgphipebiaaGreatDoor
set_option maxRecDepth 100000
open Go.RowKit
set_option linter.unusedVariables false
/-- The three cells of a writer. -/
def Out3 (w : World) (N : Nat) (v : Value) (s : Nat) : Prop := w.heap[N]? = some (.cells #[v, .int .i64 s, .bool true] 190 (0, 0))
theorem Out3.reads {w : World} {N : Nat} {v : Value} {s : Nat} (h : Out3 w N v s) :
    w.cell? ⟨N, 0, none⟩ = some v ∧ w.cell? ⟨N, 1, none⟩ = some (.int .i64 s) ∧ w.cell? ⟨N, 2, none⟩ = some (.bool true) := by
  unfold Out3 at h
  refine ⟨by simp [World.cell?, h], by simp [World.cell?, h], by simp [World.cell?, h]⟩
theorem Out3.free {w : World} {N : Nat} {v : Value} {s : Nat} (h : Out3 w N v s) : w.frozen? ⟨N, 0, none⟩ = false ∧ w.frozen? ⟨N, 1, none⟩ = false := by
  unfold Out3 at h
  refine ⟨by simp [World.frozen?, h], by simp [World.frozen?, h]⟩
theorem Out3.lt {w : World} {N : Nat} {v : Value} {s : Nat} (h : Out3 w N v s) : N < w.heap.size := (Array.getElem?_eq_some_iff.1 h).1
theorem Out3.below {w w' : World} {N : Nat} {v : Value} {s : Nat} (h : Out3 w N v s) (hb : Below w.heap.size w w') : Out3 w' N v s := by
  unfold Out3; rw [hb.block N h.lt]; exact h
/-- The encodings that were kept, the last one first. -/
def Chain (w : World) : Value → List (List Int) → Prop
  | v, [] => v = .pointer none
  | v, e :: r => ∃ M d u, v = .pointer (some ⟨M, 0, none⟩) ∧ w.heap[M]? = some (.cells #[u, d] 192 (0, 0)) ∧ 0 < e.length ∧ Ints .u8 w d e ∧ Typed 5 w d ∧ Chain w u r
theorem Chain.below {w w' : World} (hb : Below w.heap.size w w') : ∀ {L : List (List Int)} {v : Value}, Chain w v L → Chain w' v L
  | [], _, h => h
  | e :: r, v, ⟨M, d, u, h1, h2, h0, h3, h4, h5⟩ => ⟨M, d, u, h1, by rw [hb.block M (Array.getElem?_eq_some_iff.1 h2).1]; exact h2, h0, h3.below hb, h4.below hb, h5.below hb⟩
theorem Chain.grown {w w' : World} {N : Nat} {x : Value} {s : Nat} (ho : Out3 w N x s) (hg : w.grownBy w' (some N)) : ∀ {L : List (List Int)} {v : Value}, Chain w v L → Chain w' v L
  | [], _, h => h
  | e :: r, v, ⟨M, d, u, h1, h2, h0, h3, h4, h5⟩ => by
    have hne : M ≠ N := by
      rintro rfl
      unfold Out3 at ho
      rw [h2] at ho
      simp only [Option.some.injEq, Obj.cells.injEq] at ho
      exact absurd ho.2.1 (by decide)
    refine ⟨M, d, u, h1, ?_, h0, h3.grown h4 ho (by decide) hg, h4.grown ho (by decide) hg, h5.grown ho hg⟩
    rw [hg.block M (Array.getElem?_eq_some_iff.1 h2).1 (by simpa using hne)]; exact h2
def catR : List (List Int) → List Int
  | [] => []
  | e :: r => catR r ++ e
/-- A writer of these encodings. -/
def OutAt (w : World) (N : Nat) (L : List (List Int)) : Prop := ∃ v, Out3 w N v (catR L).length ∧ Chain w v L
theorem OutAt.below {w w' : World} {N : Nat} {L : List (List Int)} (h : OutAt w N L) (hb : Below w.heap.size w w') : OutAt w' N L := by
  obtain ⟨v, h1, h2⟩ := h
  exact ⟨v, h1.below hb, h2.below hb⟩
theorem OutAt.lt {w : World} {N : Nat} {L : List (List Int)} (h : OutAt w N L) : N < w.heap.size := by obtain ⟨v, h1, h2⟩ := h; exact h1.lt
/-- An encoding more. -/
theorem OutAt.more {w : World} {N : Nat} {L : List (List Int)} {x : Value} {d : Value} {e : List Int} (h1 : Out3 w N x (catR L).length) (h2 : Chain w x L) (hd : Ints .u8 w d e) (ht : Typed 5 w d) (he : 0 < e.length) (o : Obj) (ho : o = .cells #[x, d] 192) (q : Int) (hq : q = (catR (e :: L)).length) :
    OutAt (((w.setCell ⟨N, 0, none⟩ (.pointer (some ⟨w.heap.size, 0, none⟩))).setCell ⟨N, 1, none⟩ (.int .i64 q)).alloc o) N (e :: L) ∧ w.grownBy (((w.setCell ⟨N, 0, none⟩ (.pointer (some ⟨w.heap.size, 0, none⟩))).setCell ⟨N, 1, none⟩ (.int .i64 q)).alloc o) (some N) := by
  subst ho hq
  have g := grown_then (grown_set w N 0 (.pointer (some ⟨w.heap.size, 0, none⟩))) (grown_set (w.setCell ⟨N, 0, none⟩ (.pointer (some ⟨w.heap.size, 0, none⟩))) N 1 (.int .i64 ((catR (e :: L)).length : Nat)))
  have e1 := heap_setCell_same _ N 0 _ _ (.pointer (some ⟨w.heap.size, 0, none⟩)) h1
  have e2 := heap_setCell_same _ N 1 _ _ (.int .i64 ((catR (e :: L)).length : Nat)) e1
  have hsz : ((w.setCell ⟨N, 0, none⟩ (.pointer (some ⟨w.heap.size, 0, none⟩))).setCell ⟨N, 1, none⟩ (.int .i64 ((catR (e :: L)).length : Nat))).heap.size = w.heap.size := by simp [World.setCell]
  have k2 := h2.grown h1 g
  have k3 := hd.grown ht h1 (by decide) g
  have k4 := ht.grown h1 (by decide) g
  generalize (w.setCell ⟨N, 0, none⟩ (.pointer (some ⟨w.heap.size, 0, none⟩))).setCell ⟨N, 1, none⟩ (.int .i64 ((catR (e :: L)).length : Nat)) = W at *
  have hb := below_one W (.cells #[x, d] 192)
  have hn := heap_alloc_new W (.cells #[x, d] 192)
  have k1 : Out3 W N (.pointer (some ⟨w.heap.size, 0, none⟩)) (catR (e :: L)).length := e2
  rw [hsz] at hn
  exact ⟨⟨_, k1.below hb, w.heap.size, d, x, rfl, hn, he, k3.below hb, k4.below hb, k2.below hb⟩, grown_then g (grown_below hb (some N))⟩
/-- A writer that was not made, or none. -/
def NoOut (w : World) (v : Value) : Prop := v = .pointer none ∨ ∃ N, v = .pointer (some ⟨N, 0, none⟩) ∧ w.heap[N]? = some (.cells #[.pointer none, .int .i64 0, .bool false] 190 (0, 0))
theorem NoOut.below {w w' : World} {v : Value} (h : NoOut w v) (hb : Below w.heap.size w w') : NoOut w' v := by
  rcases h with rfl | ⟨N, rfl, h⟩
  · exact .inl rfl
  · exact .inr ⟨N, rfl, by rw [hb.block N (Array.getElem?_eq_some_iff.1 h).1]; exact h⟩
set_option maxRecDepth 100000
open Go.RowKit
set_option linter.unusedVariables false
set_option maxRecDepth 100000
open Go.RowKit
set_option linter.unusedVariables false
def RowAt (w : World) (G : Nat) (zs : List Int) : Prop := w.heap[G]? = some (.cells (zs.map (Value.int .u8)).toArray 5 (0, 0))
theorem RowAt.own {w : World} {B G : Nat} {zs : List Int} (h : RowAt w G zs) (hB : B ≤ G) (hl : zs.length ≤ maxLen) : BOwn w B (.slice (some ⟨G, 0, none⟩) zs.length zs.length) zs :=
  ⟨by simp, .inr ⟨G, zs.length, _, rfl, hB, h, Nat.le_refl _, hl, by simp, by rw [Nat.mul_one]; exact List.take_of_length_le (by simp)⟩⟩
end Go.Proofs.YtigikgphipebiaaGreatDoor
/- Layer 11: what a schema's bytes are. -/
namespace Go.Proofs.YtigikgphipebiaaGreatDoor
set_option maxRecDepth 100000
open Go.RowKit
set_option linter.unusedVariables false
/-- A writer of these bytes. -/
def OutB (w : World) (N : Nat) (bs : List Int) : Prop := ∃ L, OutAt w N L ∧ catR L = bs
theorem OutB.below {w w' : World} {N : Nat} {bs : List Int} (h : OutB w N bs) (hb : Below w.heap.size w w') : OutB w' N bs := by
  obtain ⟨L, h1, h2⟩ := h
  exact ⟨L, h1.below hb, h2⟩
set_option maxRecDepth 100000
open Go.RowKit
set_option linter.unusedVariables false
set_option maxRecDepth 100000
open Go.RowKit
set_option linter.unusedVariables false
/-- What stands in memory while a schema is put: the writer, the variable that the closures hold, the schema's cells. -/
structure Pw (w w1 wr : World) (D I M V : Value) (bs : List Int) : Prop where
  o : OutB wr w1.heap.size bs
  m : wr.cell? ⟨w1.heap.size + 1, 0, none⟩ = some (.pointer (some ⟨w1.heap.size, 0, none⟩))
  k : wr.cell? ⟨w.heap.size, 0, none⟩ = some D ∧ wr.cell? ⟨w.heap.size, 1, none⟩ = some I ∧ wr.cell? ⟨w.heap.size, 2, none⟩ = some M ∧ wr.cell? ⟨w.heap.size, 3, none⟩ = some V
  g : Below w1.heap.size w1 wr
  lt : w.heap.size < w1.heap.size
theorem Pw.call {w w1 wr w' : World} {D I M V : Value} {bs bs' : List Int} (h : Pw w w1 wr D I M V bs) (ho : OutB w' w1.heap.size bs') (hg : wr.grownBy w' (some w1.heap.size)) : Pw w w1 w' D I M V bs' := by
  have hl := h.lt
  have q : ∀ j, (⟨w.heap.size, j, none⟩ : Addr).block ≠ w1.heap.size := fun j => by show w.heap.size ≠ _; omega
  exact ⟨ho, cell_grown hg h.m (by show w1.heap.size + 1 ≠ _; omega), ⟨cell_grown hg h.k.1 (q 0), cell_grown hg h.k.2.1 (q 1), cell_grown hg h.k.2.2.1 (q 2), cell_grown hg h.k.2.2.2 (q 3)⟩, below_grown h.g hg (Nat.le_refl _), hl⟩
set_option maxRecDepth 100000
open Go.RowKit
set_option linter.unusedVariables false
end Go.Proofs.YtigikgphipebiaaGreatDoor
