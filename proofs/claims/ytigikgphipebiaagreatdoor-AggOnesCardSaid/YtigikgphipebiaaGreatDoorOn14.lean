/- Contracts that the law leans on, pruned and merged: Laid2 Meet Natw Ofr. -/
import Derived.ProofKit
import Derived.LaidMore
import Derived.OpenShut
import Derived.Stop.Joined
import Derived.Lib.LaidTab
import Derived.Outline
import Derived.Deep.LoopGhost
import Derived.Test.YtigikgphipebiaaGreatDoorRows
import Derived.Test.YtigikgphipebiaaGreatDoorOn12
import Derived.Test.YtigikgphipebiaaGreatDoorOn13
/- The table of math/bits: what the rows' condition gives, and that a world meets it. -/
namespace Go.Proofs.YtigikgphipebiaaGreatDoor
set_option maxRecDepth 100000
open Go.ChangeShapes Go.WideShapes Go.ChangeAt Go.RowKit
set_option linter.unusedVariables false
theorem own2 : ownKnob Tryz.prog.godebug = none := by kernel_rfl
theorem laidOut2 : laidOutB Tryz.prog = true := by kernel_rfl
theorem gTab : Tryz.prog.globalNamed "math/bits.deBruijn32tab" = some 1 := by kernel_rfl
theorem tTab : (Tryz.prog.globals[1]?).map (·.type) = some 285 := by kernel_rfl
def tabInts : List Int := [0, 1, 28, 2, 29, 14, 24, 3, 30, 22, 20, 15, 25, 17, 4, 8, 31, 27, 13, 23, 21, 19, 16, 7, 26, 12, 18, 6, 11, 5, 10, 9]
def Given (k : IntKind) (w : World) (v : Value) (zs : List Int) : Prop := Ints k w v zs ∧ ∀ n ∈ zs, (Lit.int k n).wf = true
theorem Given.wlist {w : World} {v : Value} {zs : List Int} (h : Given .u32 w v zs) (hl : zs.length ≤ 1099511627776) : WList w v zs :=
  ⟨h.1, fun x hx => by have := h.2 x hx; simp [Lit.wf, IntKind.min, IntKind.max, IntKind.signed, IntKind.bits] at this; omega, hl⟩
abbrev Four' (R : Nat) (a b c d : Value) (w' : World) : Prop := w'.cell? ⟨R, 0, none⟩ = some a ∧ w'.cell? ⟨R, 1, none⟩ = some b ∧ w'.cell? ⟨R + 1, 0, none⟩ = some c ∧ w'.cell? ⟨R + 1, 1, none⟩ = some d
theorem Four'.call {R : Nat} {a b c d : Value} {w1 w2 : World} (h : Four' R a b c d w1) (hb : Below w1.heap.size w1 w2) : Four' R a b c d w2 := ⟨cell_later hb h.1, cell_later hb h.2.1, cell_later hb h.2.2.1, cell_later hb h.2.2.2⟩
end Go.Proofs.YtigikgphipebiaaGreatDoor
/- Two variables of which one is made by a drawn statement. -/
namespace Go.Proofs.YtigikgphipebiaaGreatDoor
set_option maxRecDepth 100000
open Go.RowKit
set_option linter.unusedVariables false
theorem from_drew {W w2 : World} (hb : Below W.drew.heap.size W.drew w2) : Below W.heap.size W w2 := (Below.refl _ _).drew.trans hb
theorem set_cells {w w1 : World} {N : Nat} {T : TypeId} (h : Kept w N T w1) (u v : Value) :
    ((w1.setCell ⟨N, 0, none⟩ u).setCell ⟨N, 1, none⟩ v).cell? ⟨N, 0, none⟩ = some u ∧ ((w1.setCell ⟨N, 0, none⟩ u).setCell ⟨N, 1, none⟩ v).cell? ⟨N, 1, none⟩ = some v := by
  obtain ⟨h1, h2, x, y, h3⟩ := h
  have h4 := set_two (u := u) (v := v) h3
  exact ⟨by simp [World.cell?, h4], by simp [World.cell?, h4]⟩
abbrev SixAt (X M P : Nat) (a b c d e f : Value) (w : World) : Prop :=
  (w.cell? ⟨X, 0, none⟩ = some a ∧ w.cell? ⟨X, 1, none⟩ = some b) ∧ (w.cell? ⟨M, 0, none⟩ = some c ∧ w.cell? ⟨M, 1, none⟩ = some d) ∧ (w.cell? ⟨P, 0, none⟩ = some e ∧ w.cell? ⟨P, 1, none⟩ = some f)
theorem SixAt.call {X M P : Nat} {a b c d e f : Value} {w w' : World} (h : SixAt X M P a b c d e f w) (hb : Below w.heap.size w w') : SixAt X M P a b c d e f w' := by
  obtain ⟨⟨h1, h2⟩, ⟨h3, h4⟩, h5, h6⟩ := h
  exact ⟨⟨cell_later hb h1, cell_later hb h2⟩, ⟨cell_later hb h3, cell_later hb h4⟩, cell_later hb h5, cell_later hb h6⟩
end Go.Proofs.YtigikgphipebiaaGreatDoor
/- What Bits of package bushelref02 answers. -/
namespace Go.Proofs.YtigikgphipebiaaGreatDoor
set_option maxRecDepth 100000
open Go.RowKit
set_option linter.unusedVariables false
def BitsRel (w : World) (X P : Nat) (a b : Value) (z : Int) (n : Nat) (W : World) : Prop :=
  (∃ u t, (W.cell? ⟨P, 0, none⟩ = some u ∧ W.cell? ⟨P, 1, none⟩ = some t) ∧ IsNum W (.agg #[u, t]) (2 ^ n)) ∧ (W.cell? ⟨X, 0, none⟩ = some a ∧ W.cell? ⟨X, 1, none⟩ = some b) ∧ Kept w P 89 W ∧ IsNum W (.agg #[a, b]) z
theorem BitsRel.next {w W W1 W2 : World} {X P : Nat} {a b u t : Value} {z : Int} {n : Nat} (h : BitsRel w X P a b z n W) (hXP : X ≠ P) (h1 : Below W.heap.size W W1) (h2 : Below W1.heap.size W1 W2) (hr : IsNum W2 (.agg #[u, t]) (2 ^ (n + 1))) :
    BitsRel w X P a b z (n + 1) ((W2.setCell ⟨P, 0, none⟩ u).setCell ⟨P, 1, none⟩ t) := by
  obtain ⟨-, ⟨x1, x2⟩, hk, hz⟩ := h
  have hk2 := (hk.call h1).call h2
  have y1 := cell_later h2 (cell_later h1 x1)
  have y2 := cell_later h2 (cell_later h1 x2)
  obtain ⟨k1, k2, p, q, k3⟩ := id hk2
  obtain ⟨cur, k4⟩ := heap_setCell_cells (p := ⟨P, 0, none⟩) (u := u) k3
  refine ⟨⟨u, t, set_cells hk2 u t, hk2.num hr⟩, ⟨?_, ?_⟩, hk2.store u t, (((hz.below h1).below h2).set u k3 (by decide)).set t k4 (by decide)⟩
  · rw [World.cell?_setCell_far _ _ _ _ (by simp; omega), World.cell?_setCell_far _ _ _ _ (by simp; omega)]; exact y1
  · rw [World.cell?_setCell_far _ _ _ _ (by simp; omega), World.cell?_setCell_far _ _ _ _ (by simp; omega)]; exact y2
end Go.Proofs.YtigikgphipebiaaGreatDoor
/- What Of of package bushelref02 returns. -/
namespace Go.Proofs.YtigikgphipebiaaGreatDoor
set_option maxRecDepth 100000
open Go.RowKit
set_option linter.unusedVariables false
/-- A row of digits of the call's own. -/
def IRow (w : World) (B g cap : Nat) (a : List Int) : Prop := w.ownsRow B 3 1 (.slice (some ⟨g, 0, none⟩) a.length cap) a.length (a.map (Value.int .i64))
theorem IRow.facts {w : World} {B g cap : Nat} {a : List Int} (h : IRow w B g cap a) : B ≤ g ∧ g < w.heap.size ∧ a.length ≤ cap ∧ cap ≤ maxLen ∧ ∀ j, j < a.length → w.cell? ⟨g, j, none⟩ = some (.int .i64 (a.getD j 0)) ∧ w.frozen? ⟨g, j, none⟩ = false := by
  have h0 := h
  obtain ⟨hl, hh⟩ := h
  have h1 := World.ownsRow.lt h0 g rfl
  refine ⟨h1.1, h1.2, ?_, ?_, fun j hj => ⟨?_, World.ownsRow.frozenAt h0 j⟩⟩
  · rcases hh with ⟨e, _⟩ | ⟨g', cap', cur, e, _, _, hc, _⟩
    · simp at e
    · simp at e; omega
  · rcases hh with ⟨e, _⟩ | ⟨g', cap', cur, e, _, _, _, hc, _⟩
    · simp at e
    · simp at e; omega
  · rw [World.ownsRow.cellAt h0 j (by omega)]
    simp [List.getD, hj]
theorem IRow.set {w : World} {B g cap : Nat} {a : List Int} (h : IRow w B g cap a) (j : Nat) (x : Int) : IRow (w.setCell ⟨g, j, none⟩ (.int .i64 x)) B g cap (a.set j x) := by
  have := (World.ownsRow.stored h j (.int .i64 x)).1
  simpa [IRow, List.map_set] using this
theorem IRow.cut {w : World} {B g cap n : Nat} {a : List Int} (h : IRow w B g cap a) (hn : n ≤ a.length) : IRow w B g cap (a.take n) := by
  have hl : (a.take n).length = n := by rw [List.length_take]; omega
  obtain ⟨k1, k2⟩ := h
  refine ⟨by simp, ?_⟩
  rcases k2 with ⟨e, _⟩ | ⟨g', cap', cur, e, q1, q2, q3, q4, q5, q6⟩
  · simp at e
  · refine .inr ⟨g', cap', cur, by simp at e ⊢; exact ⟨e.1, e.2⟩, q1, q2, by omega, q4, q5, ?_⟩
    have := congrArg (List.take n) q6
    rw [List.take_take] at this
    rw [hl, show n * 1 = min n (a.length * 1) from by omega, this, List.map_take]
theorem iother {w : World} {B : Nat} {rv dv : Value} {n m : Nat} {xs ys : List Value} (hr : w.ownsRow B 3 1 rv n xs) (hd : w.ownsRow B 27 1 dv m ys) : rv.ownBlock = none ∨ rv.ownBlock ≠ dv.ownBlock := by
  rcases hr.2 with ⟨rfl, _⟩ | ⟨g, cap, cur, rfl, _, h1, _⟩
  · exact .inl rfl
  · rcases hd.2 with ⟨rfl, _⟩ | ⟨g', cap', cur', rfl, _, h2, _⟩
    · exact .inr (by simp [Value.ownBlock])
    · refine .inr (fun e => ?_)
      simp only [Value.ownBlock, Option.some.injEq] at e
      subst e
      rw [h1] at h2
      simp only [Option.some.injEq, Obj.cells.injEq] at h2
      exact absurd h2.2.1 (by decide)
theorem iother' {w : World} {B : Nat} {rv dv : Value} {n m : Nat} {xs ys : List Value} (hr : w.ownsRow B 3 1 rv n xs) (hd : w.ownsRow B 27 1 dv m ys) : dv.ownBlock ≠ rv.ownBlock ∨ rv.ownBlock = none := by
  rcases iother hr hd with h | h
  · exact .inr h
  · exact .inl (fun e => h e.symm)
/-- The digits that are left, in block g; the words that are out. -/
def OfSt (w : World) (z : Int) (g cap : Nat) (ds out : List Int) (ov : Value) (wr : World) : Prop :=
  IRow wr w.heap.size g cap ds ∧ wr.ownsRow w.heap.size 27 1 ov out.length (out.map (Value.int .u32)) ∧ OfRel z out ds ∧ Below w.heap.size w wr
/-- In the middle of a division. -/
def OfMid (w : World) (z : Int) (g cap : Nat) (ds o out : List Int) (m : Nat) (r : Int) (ov : Value) (wr : World) : Prop :=
  IRow wr w.heap.size g cap o ∧ DDivRel ds m o r ∧ wr.ownsRow w.heap.size 27 1 ov out.length (out.map (Value.int .u32)) ∧ Below w.heap.size w wr
theorem OfMid.next {w wr : World} {z : Int} {g cap m : Nat} {ds o out : List Int} {r : Int} {ov : Value} (h : OfMid w z g cap ds o out (m + 1) r ov wr) (hm : m < ds.length) (y : Int) (hy : o.getD m 0 = y) :
    OfMid w z g cap ds (o.set m ((r * 1000 + y) / 4294967296)) out m ((r * 1000 + y) % 4294967296) ov (wr.setCell ⟨g, m, none⟩ (.int .i64 ((r * 1000 + y) / 4294967296))) := by
  obtain ⟨h1, h2, h3, h4⟩ := h
  refine ⟨h1.set m _, h2.step hm y hy, ?_, h4.setCell h1.facts.1 _⟩
  have honly := (Only.refl g wr).set m (.int .i64 ((r * 1000 + y) / 4294967296))
  refine honly.row h3 ?_
  rcases iother' h1 h3 with e | e
  · simpa [Value.ownBlock] using e
  · simp [Value.ownBlock] at e
theorem OfMid.push {w wr w1 : World} {z : Int} {g cap : Nat} {ds o out : List Int} {r : Int} {ov ov' : Value} {ob : Obj} (h : OfMid w z g cap ds o out 0 r ov wr)
    (hown : w1.ownsRow w.heap.size 27 1 ov' (out.length + 1) (out.map (Value.int .u32) ++ [.int .u32 r])) (hg : (wr.alloc ob).grownBy w1 ov.ownBlock) :
    IRow w1 w.heap.size g cap o ∧ w1.ownsRow w.heap.size 27 1 ov' (out ++ [r]).length ((out ++ [r]).map (Value.int .u32)) ∧ Below w.heap.size w w1 := by
  obtain ⟨h1, h2, h3, h4⟩ := h
  refine ⟨World.ownsRow.kept (World.ownsRow.alloc h1 ob) hg (iother h1 h3), by simpa using hown, ?_⟩
  refine (h4.alloc h4.size ob).grown hg ?_ ?_
  · have := h4.size; simp; omega
  · intro k hk; exact (h3.lt k hk).1
theorem dig_take {a : List Int} (h : Dig a) (n : Nat) : Dig (a.take n) := fun x hx => h x (List.mem_of_mem_take hx)
theorem val_take_succ {a : List Int} {n : Nat} (hn : n < a.length) (h0 : a.getD n 0 = 0) : val (a.take n) = val (a.take (n + 1)) := by
  have e1 : (a.take n).length = n := by rw [List.length_take]; omega
  have e2 : (a.take (n + 1)).length = n + 1 := by rw [List.length_take]; omega
  have e3 : valN (a.take (n + 1)) n = valN (a.take n) n := valN_congr (fun i hi => by rw [getD_take (by omega), getD_take hi])
  rw [val, val, e1, e2, valN, e3, getD_take (by omega), h0]; simp
def sliceLen : Value → Nat
  | .slice _ l _ => l
  | _ => 0
theorem OfMid.bounds {w wr : World} {z : Int} {g cap m : Nat} {ds o out : List Int} {r : Int} {ov : Value} (h : OfMid w z g cap ds o out m r ov wr) : 0 ≤ r ∧ r < 4294967296 ∧ o.length = ds.length ∧ Dig o := by
  obtain ⟨h1, ⟨X, Y, q1, q2, q3, q4, q5, q6, q7, q8⟩, h3, h4⟩ := h
  exact ⟨q4, q5, q7, q6⟩
theorem of_next {z : Int} {out ds o : List Int} {n : Nat} (h : OfRel z out ds) (hne : ds ≠ []) (ho : val o = val ds / 4294967296) (hl : o.length = ds.length) (hd : Dig o) (hn : n ≤ o.length) (hv : val (o.take n) = val o) (ht : n = 0 ∨ o.getD (n - 1) 0 ≠ 0) :
    OfRel z (out ++ [val ds % 4294967296]) (o.take n) ∧ (o.take n).length < ds.length := by
  have hlt : (o.take n).length = n := by rw [List.length_take]; omega
  have hT : Tidy (o.take n) := by
    rcases ht with h0 | h0
    · subst h0; exact .inl (by simp)
    · by_cases hz : n = 0
      · subst hz; exact .inl (by simp)
      · refine .inr ?_
        rw [hlt, getD_take (by omega)]; exact h0
  have hD := dig_take hd n
  refine ⟨h.next hne (hv.trans ho) hD hT, ?_⟩
  have h1 := h.2.2.1
  have hpos : 0 < ds.length := List.length_pos_iff.2 hne
  have hr := val_range h1
  have e : (1000 : Int) ^ ds.length = 1000 ^ (ds.length - 1) * 1000 := by
    rw [← p_succ]; congr 1; omega
  have hlt2 : val (o.take n) < 1000 ^ (ds.length - 1) := by
    rw [hv, ho]
    have := hr.2
    rw [e] at this
    omega
  have := hT.len hD hlt2
  omega
set_option maxHeartbeats 4000000 in
theorem rof_own (v : Value) (z : Int) (w : World) (hv : IsNum w v z) (h0 : 0 ≤ z) (hs : Sized 1000 z) :
    Calls Tryz.prog 43 #[v] w (Fresh w z 1000) := by
  obtain ⟨i0, hi0, hz0, hz1, hz2⟩ := info_parts Tryz.infoInt
  obtain ⟨j0, hj0, hy0, hy1, hy2⟩ := info_parts Tryz.infoU32
  obtain ⟨nb, s, ds, rfl, hi, ht, hd, hty, hn, hz⟩ := hv
  obtain ⟨np, nc, rfl, hlc, hcell⟩ := id hi
  have hB := below_one w (.cells #[.bool nb, .slice np ds.length nc] 89)
  have HI := Lib.hid (hi.below hB)
  have HB := Lib.hid hB
  have hx : (w.alloc (.cells #[.bool nb, .slice np ds.length nc] 89)).cell? ⟨w.heap.size, 1, none⟩ = some (.slice np ds.length nc) := by simp [go_sem]
  have hll : ds.length ≤ 1000 := len_of_sized hd hty (by rw [← hz]; exact hs)
  have hval : Hid (z = val ds) := Lib.hid (by
    cases nb
    · rw [hz]; rfl
    · have h1 := hn rfl
      have h2 : val ds ≠ 0 := fun e => h1 ((hty.zero hd).1 e)
      have h3 := (val_range hd).1
      simp [signed] at hz; omega)
  have HD := Lib.hid (And.intro hd hty)
  have hsz1 : w.heap.size ≤ (w.alloc (.cells #[.bool nb, .slice np ds.length nc] 89)).heap.size := by simp
  clear hi hB hcell ht hn hz hs hd hty
  go_enter Tryz.func43, Tryz.ntmps43
  go_upto_region 1 with fail
  generalize w.alloc (.cells #[.bool nb, .slice np ds.length nc] 89) = W at *
  have hx2 := cell_later (below_one W (.cells #[] 3)) hx
  go_wp2_with (at_builtin; refine wpList_append_ints _ rfl _ _ 28 rfl w.heap.size 3 i0 (.int .i64 0) 8 Tryz.underlying28 hi0 hz0 hz1 hz2 rfl .i64 _ _ [] ds rfl rfl (World.ownsRow_lit W #[] 0 hsz1 (by unfold maxLen; omega) rfl) (HI.out.below (below_one W _)) (by unfold maxLen; simp; omega) (by simp; omega) (by simp; omega) ?_; intro v1 w1 hown hgrow)
  have hb1 : Below w.heap.size w w1 := (HB.out.alloc hsz1 _).grown hgrow (by simp; omega) (fun k hk => by have e : W.heap.size = k := Option.some.inj hk; omega)
  rw [List.nil_append] at hown
  have HE1 := Lib.hid hb1
  have HO1 := Lib.hid hown
  clear hown hgrow hb1 hx2 hx HI HB
  by_cases hnil : ds = []
  · subst hnil
    obtain ⟨p1, c1, rfl⟩ := own_slice HO1.out
    have hz3 : Hid (z = 0) := Lib.hid (by have := hval.out; rwa [val_nil] at this)
    clear HO1 hval
    go_wp2_with fail
    go_loop [3, 4] (fun dv ov => dv = .slice p1 0 c1 ∧ ov = .slice none 0 0) (fun _ _ => 0)
    case atStart => exact ⟨rfl, rfl⟩
    case round =>
      obtain ⟨rfl, rfl⟩ := hrel
      go_wp2_with fail
      go_ret
      exact ⟨_, [], rfl, World.ownsRow_nil _ _ _ _, Wd.nil, .inl rfl, by rw [hz3.out]; rfl, Nat.zero_le _, HE1.out⟩
  · obtain ⟨g, cap, rfl, hrow⟩ : ∃ g cap, v1 = .slice (some ⟨g, 0, none⟩) ds.length cap ∧ IRow w1 w.heap.size g cap ds := by
      have ho := HO1.out
      rcases ho.2 with ⟨rfl, h0⟩ | ⟨g, cap, cur, rfl, _⟩
      · exact absurd (List.length_eq_zero_iff.1 h0) hnil
      · exact ⟨g, cap, rfl, ho⟩
    have hcap : cap ≤ 9223372036854775807 := by have := hrow.facts.2.2.2.1; unfold maxLen at this; omega
    have hg := hrow.facts.1
    have HS0 : Hid (OfSt w z g cap ds [] (.slice none 0 0) w1) := Lib.hid ⟨hrow, World.ownsRow_nil _ _ _ _, OfRel.start hval.out HD.out.1 HD.out.2, HE1.out⟩
    clear HO1 HE1 hrow hval HD hnil
    go_wp2_with fail
    go_loopw [3, 4] (fun dv ov wr => ∃ (ds' out : List Int) (o : Value), dv = .slice (some ⟨g, 0, none⟩) ds'.length cap ∧ o = ov ∧ out.length + ds'.length ≤ 1000 ∧ Hid (OfSt w z g cap ds' out o wr)) (fun dv _ _ => sliceLen dv)
    case atStart => exact ⟨ds, [], _, rfl, rfl, by simpa using hll, HS0⟩
    case round =>
      clear HS0
      obtain ⟨ds', out, ov, rfl, rfl, hlen, hS⟩ := hrel
      obtain ⟨op, oc, rfl⟩ := own_slice hS.out.2.1
      have hdc := hS.out.1.facts.2.2.1
      by_cases hpos : 0 < ds'.length
      · have hne : ds' ≠ [] := List.length_pos_iff.1 hpos
        have hp1 : (0 : Int) < (ds'.length : Int) := by omega
        have HM0 : Hid (OfMid w z g cap ds' ds' out ds'.length 0 (.slice op out.length oc) wr) := Lib.hid ⟨hS.out.1, DDivRel.start hS.out.2.2.1.2.2.1, hS.out.2.1, hS.out.2.2.2⟩
        have HRel := Lib.hid hS.out.2.2.1
        have hne := Lib.hid hne
        obtain ⟨L, hL⟩ : ∃ L, ds'.length = L := ⟨_, rfl⟩
        have HL := Lib.hid hL
        rw [hL] at HM0 hlen hdc hpos hp1 ⊢
        clear hL hS
        go_wp2_with fail
        go_loopw [5, 6] (fun l i wr => ∃ (m : Nat) (iv r : Int) (o : List Int), Hid (iv = (m : Int) - 1) ∧ -1 ≤ iv ∧ iv ≤ 1000 ∧ m ≤ L ∧ i = .int .i64 iv ∧ l = .int .i64 r ∧ Hid (OfMid w z g cap ds' o out m r (.slice op out.length oc) wr)) (fun _ i _ => (intOf i + 1).toNat)
        case atStart => exact ⟨L, _, 0, ds', Lib.hid rfl, by omega, by omega, Nat.le_refl _, rfl, rfl, HM0⟩
        case round =>
          clear HM0
          obtain ⟨m, iv, r, o, hiv, v0, v1, hm, rfl, rfl, hM⟩ := hrel
          obtain ⟨r0, r1, hol, hdo⟩ := hM.out.bounds
          by_cases hi0' : 0 ≤ iv
          · obtain ⟨n, rfl⟩ : ∃ n, m = n + 1 := ⟨m - 1, by have := hiv.out; omega⟩
            have hn : iv = (n : Int) := by have := hiv.out; omega
            subst hn
            have hol2 := Lib.hid hol
            obtain ⟨hc1, hc2⟩ := hM.out.1.facts.2.2.2.2 n (by have := HL.out; omega)
            have hyb := hdo.getD n
            have hnx := Lib.hid (fun (y : Int) (hy : o.getD n 0 = y) => hM.out.next (by have := HL.out; omega) y hy)
            generalize o.getD n 0 = y at *
            have hN := Lib.hid (hnx.out y rfl)
            obtain ⟨y0, y1⟩ := hyb
            have hq0 : 0 ≤ r * 1000 + y := by omega
            have hn1 : (n : Int) < (L : Int) := by omega
            clear hnx hM hol hdo hiv
            go_wp2_with fail
            go_roundw
            case rel => exact ⟨n, (n : Int) - 1, _, _, Lib.hid rfl, by omega, by omega, by omega, rfl, rfl, hN⟩
            case measure => simp [intOf]
          · obtain rfl : m = 0 := by have := hiv.out; omega
            obtain ⟨s1, s2, s3, s4⟩ := hM.out.2.1.stop
            have HQ := Lib.hid (And.intro s1 (And.intro s2 (And.intro s3 s4)))
            have hsz := hM.out.2.2.2.size
            have hown := Lib.hid hM.out.2.2.1
            have hr32 : r ≤ 4294967295 := by omega
            have hneg : iv < 0 := by omega
            have hpush := Lib.hid (fun (w1 : World) (ov' : Value) (ob : Obj) h1 h2 => OfMid.push (w1 := w1) (ov' := ov') (ob := ob) hM.out h1 h2)
            clear hM hol hdo hiv s1 s2 s3 s4 hi0' v0 v1
            go_wp2_with (at_builtin; refine wpList_append_own _ rfl _ _ 24 rfl w.heap.size 27 j0 (.int .u32 0) 1 4 Tryz.underlying24 hj0 hy0 hy1 hy2 rfl (by decide) _ _ _ rfl (hown.out.alloc _) ⟨wr.heap.size, 0, none⟩ 1 1 [.int .u32 r] rfl rfl (cell_one_new _ _ _) (one_int _ _) (room63 (by omega)) (room47w (by omega)) (by simp; omega) ?_; intro v3 w3 hown' hgrow _)
            obtain ⟨p1, p2, p3⟩ := hpush.out w3 v3 _ hown' hgrow
            have HP := Lib.hid (And.intro p1 (And.intro p2 p3))
            obtain ⟨p4, c4, rfl⟩ := own_slice p2
            clear p1 p2 p3 hown' hgrow hpush hown hsz
            go_wp2_with fail
            go_loop [3] (fun dv => ∃ n : Nat, n ≤ L ∧ dv = .slice (some ⟨g, 0, none⟩) n cap ∧ Hid (val (o.take n) = val o)) (fun dv => sliceLen dv)
            case atStart => exact ⟨L, Nat.le_refl _, rfl, Lib.hid (by rw [List.take_of_length_le (by have := HQ.out.2.2.2; have := HL.out; omega)])⟩
            case round =>
              obtain ⟨n, hn, rfl, hv⟩ := hrel
              have hfin : (n = 0 ∨ o.getD (n - 1) 0 ≠ 0) → Hid (OfSt w z g cap (o.take n) (out ++ [r]) (.slice p4 (out ++ [r]).length c4) w3 ∧ (o.take n).length = n ∧ n < L) := fun ht => Lib.hid (by
                have hol := HQ.out.2.2.2
                have := of_next HRel.out hne.out HQ.out.1 hol HQ.out.2.2.1 (by have := HL.out; omega) hv.out ht
                rw [← HQ.out.2.1] at this
                have hln : (o.take n).length = n := by rw [List.length_take]; have := HL.out; omega
                exact ⟨⟨HP.out.1.cut (by have := HL.out; omega), HP.out.2.1, this.1, HP.out.2.2⟩, hln, by have := HL.out; omega⟩)
              by_cases hn0 : n = 0
              · subst hn0
                have HF := hfin (.inl rfl)
                clear hfin hv
                go_wp2_with fail
                go_roundw
                case rel => exact ⟨o.take 0, out ++ [r], _, by rw [HF.out.2.1], rfl, by have := HF.out.2.2; rw [HF.out.2.1]; simp; omega, Lib.hid HF.out.1⟩
                case measure => have := HF.out.2.2; simp [sliceLen]; omega
              · obtain ⟨k, rfl⟩ : ∃ k, n = k + 1 := ⟨n - 1, by omega⟩
                obtain ⟨hc1, hc2⟩ := HP.out.1.facts.2.2.2.2 k (by have := HQ.out.2.2.2; have := HL.out; omega)
                have hp2 : (0 : Int) < ((k + 1 : Nat) : Int) := by omega
                by_cases hlast : o.getD k 0 = 0
                · rw [hlast] at hc1
                  have hv2 := Lib.hid ((val_take_succ (by have := HQ.out.2.2.2; have := HL.out; omega) hlast).trans hv.out)
                  clear hfin hv hlast hn0
                  go_wp2_with fail
                  go_round
                  case rel => exact ⟨k, by omega, rfl, hv2⟩
                  case measure => simp [sliceLen]
                · have HF := hfin (.inr hlast)
                  have hl2 : (o.getD k 0 == 0) = false := by simpa using hlast
                  generalize o.getD k 0 = y at *
                  clear hfin hv hlast hn0
                  go_wp2_with fail
                  go_roundw
                  case rel => exact ⟨o.take (k + 1), out ++ [r], _, by rw [HF.out.2.1], rfl, by have := HF.out.2.2; rw [HF.out.2.1]; simp; omega, Lib.hid HF.out.1⟩
                  case measure => have := HF.out.2.2; simp [sliceLen]; omega
      · have hd0 : ds' = [] := List.length_eq_zero_iff.1 (by omega)
        subst hd0
        obtain ⟨q1, q2, q3⟩ := hS.out.2.2.1.stop
        have HF := Lib.hid (And.intro hS.out.2.1 (And.intro q2 (And.intro q3 (And.intro q1 (And.intro (show out.length ≤ 1000 by simp at hlen; omega) hS.out.2.2.2)))))
        clear hS q1 q2 q3
        go_wp2_with fail
        go_ret
        exact ⟨_, out, rfl, HF.out.1, HF.out.2.1, HF.out.2.2.1, HF.out.2.2.2.1, HF.out.2.2.2.2.1, HF.out.2.2.2.2.2⟩
theorem rof_any (v : Value) (z : Int) (w : World) (hv : IsNum w v z) (h0 : 0 ≤ z) (hs : Sized 1000 z) :
    Calls Tryz.prog 43 #[v] w fun e w' => (∃ u, e = .returned u ∧ IsNat w' u z) ∧ Below w.heap.size w w' :=
  (rof_own v z w hv h0 hs).mono fun e w' h => by
    obtain ⟨u, a, rfl, h1, h2, h3, h4, h5, h6⟩ := h
    exact ⟨⟨u, rfl, a, own_wlist h1 h2 (by omega), h3, h4⟩, h6⟩
end Go.Proofs.YtigikgphipebiaaGreatDoor
