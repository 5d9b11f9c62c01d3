/- Contracts that the law leans on, pruned and merged: Awake2 Laid2 Meet Natw Ofr Flok. -/
import Derived.ProofKit
import Derived.LaidMore
import Derived.OpenShut
import Derived.Stop.Joined
import Derived.Lib.LaidTab
import Derived.Outline
import Derived.Deep.LoopGhost
import Derived.Test.YtigikgphipebiaaGreatDoorRows
import Derived.Test.YtigikgphipebiaaGreatDoorRi06
import Derived.Test.YtigikgphipebiaaGreatDoorRi08
import Derived.Test.YtigikgphipebiaaGreatDoorRi09
import Derived.Test.YtigikgphipebiaaGreatDoorRi11
import Derived.Test.YtigikgphipebiaaGreatDoorRi12
/- The examples of the chapter nat: the helper that every statement of layer 2 asks at its end answers true. -/
namespace Go.Proofs.YtigikgphipebiaaGreatDoor
set_option maxRecDepth 100000
open Go.RowKit
set_option linter.unusedVariables false
theorem tidy_tail {x : Int} {t : List Int} (h : Tidy (x :: t)) : Tidy t := by
  by_cases e : t = []
  · exact .inl e
  · refine .inr ?_
    have h1 := h.resolve_left (by simp)
    have hl : 0 < t.length := List.length_pos_iff.2 e
    have e2 : (x :: t).getD ((x :: t).length - 1) 0 = t.getD (t.length - 1) 0 := by
      obtain ⟨n, hn⟩ : ∃ n, t.length = n + 1 := ⟨t.length - 1, by omega⟩
      simp [List.getD, hn]
    rw [e2] at h1; exact h1
theorem wv_cons (x : Int) (t : List Int) : wv (x :: t) = x + 4294967296 * wv t := by
  have := wv_head (a := x :: t) (by simp)
  simpa using this
theorem tidy_unique : ∀ {a b : List Int}, Wd a → Wd b → Tidy a → Tidy b → wv a = wv b → a = b
  | [], b, _, hb, _, tb, h => by
    have := (tb.wzero hb).1 (by rw [← h]; rfl)
    exact this.symm
  | x :: t, [], ha, _, ta, _, h => (ta.wzero ha).1 (by rw [h]; rfl)
  | x :: t, y :: s, ha, hb, ta, tb, h => by
    rw [wv_cons, wv_cons] at h
    have hx := ha x (by simp)
    have hy := hb y (by simp)
    have e : x = y := by omega
    have e2 : wv t = wv s := by omega
    rw [e, tidy_unique (fun z hz => ha z (List.mem_cons_of_mem _ hz)) (fun z hz => hb z (List.mem_cons_of_mem _ hz)) (tidy_tail ta) (tidy_tail tb) e2]
theorem IsNat.list {w : World} {v : Value} {z : Int} {l : List Int} (h : IsNat w v z) (hd : Wd l) (ht : Tidy l) (hz : wv l = z) : WList w v l := by
  obtain ⟨a, h1, h2, h3⟩ := h
  have := tidy_unique h1.2.1 hd h2 ht (by rw [h3, hz])
  rw [← this]; exact h1
theorem halved_unique {z : Int} {m n : Nat} (h : Halved z m) (k : Halved z n) : m = n := by
  have key : ∀ (m n a b : Nat), m < n → (2 : Int) ^ m * (2 * a + 1) = 2 ^ n * (2 * b + 1) → False := fun m n a b hmn e => by
    obtain ⟨d, rfl⟩ : ∃ d, n = m + d + 1 := ⟨n - m - 1, by omega⟩
    rw [show m + d + 1 = m + (d + 1) from rfl, Int.pow_add, Int.mul_assoc] at e
    have hp : (2 : Int) ^ m ≠ 0 := by have : (0 : Int) < 2 ^ m := Int.pow_pos (by decide); omega
    have e2 := Int.eq_of_mul_eq_mul_left hp e
    rw [Int.pow_succ, Int.mul_comm (2 ^ d) 2, Int.mul_assoc] at e2
    omega
  have pos : ∀ (n a : Nat), (2 : Int) ^ n * (2 * a + 1) ≠ 0 := fun n a e => by
    have : (0 : Int) < 2 ^ n * (2 * a + 1) := Int.mul_pos (Int.pow_pos (by decide)) (by omega)
    omega
  rcases h with ⟨h1, h2⟩ | ⟨a, h1⟩
  · rcases k with ⟨k1, k2⟩ | ⟨b, k1⟩
    · omega
    · exact absurd (k1.symm.trans h1) (pos n b)
  · rcases k with ⟨k1, k2⟩ | ⟨b, k1⟩
    · exact absurd (h1.symm.trans k1) (pos m a)
    · rcases Nat.lt_trichotomy m n with q | q | q
      · exact (key m n a b q (h1.symm.trans k1)).elim
      · exact q
      · exact (key n m b a q (k1.symm.trans h1)).elim
end Go.Proofs.YtigikgphipebiaaGreatDoor
/- The table of math/bits: what the rows' condition gives, and that a world meets it. -/
namespace Go.Proofs.YtigikgphipebiaaGreatDoor
set_option maxRecDepth 100000
open Go.ChangeShapes Go.WideShapes Go.ChangeAt Go.RowKit
set_option linter.unusedVariables false
theorem own2 : ownKnob Tryz.prog.godebug = none := by kernel_rfl
theorem laidOut2 : laidOutB Tryz.prog = true := by kernel_rfl
theorem gTab : Tryz.prog.globalNamed "math/bits.deBruijn32tab" = some 1 := by kernel_rfl
theorem tTab : (Tryz.prog.globals[1]?).map (·.type) = some 285 := by kernel_rfl
def tabInts : List Int := [0, 1, 28, 2, 29, 14, 24, 3, 30, 22, 20, 15, 25, 17, 4, 8, 31, 27, 13, 23, 21, 19, 16, 7, 26, 12, 18, 6, 11, 5, 10, 9]
def Given (k : IntKind) (w : World) (v : Value) (zs : List Int) : Prop := Ints k w v zs ∧ ∀ n ∈ zs, (Lit.int k n).wf = true
theorem Given.wlist {w : World} {v : Value} {zs : List Int} (h : Given .u32 w v zs) (hl : zs.length ≤ 1099511627776) : WList w v zs :=
  ⟨h.1, fun x hx => by have := h.2 x hx; simp [Lit.wf, IntKind.min, IntKind.max, IntKind.signed, IntKind.bits] at this; omega, hl⟩
abbrev Four' (R : Nat) (a b c d : Value) (w' : World) : Prop := w'.cell? ⟨R, 0, none⟩ = some a ∧ w'.cell? ⟨R, 1, none⟩ = some b ∧ w'.cell? ⟨R + 1, 0, none⟩ = some c ∧ w'.cell? ⟨R + 1, 1, none⟩ = some d
theorem Four'.call {R : Nat} {a b c d : Value} {w1 w2 : World} (h : Four' R a b c d w1) (hb : Below w1.heap.size w1 w2) : Four' R a b c d w2 := ⟨cell_later hb h.1, cell_later hb h.2.1, cell_later hb h.2.2.1, cell_later hb h.2.2.2⟩
end Go.Proofs.YtigikgphipebiaaGreatDoor
/- Two variables of which one is made by a drawn statement. -/
namespace Go.Proofs.YtigikgphipebiaaGreatDoor
set_option maxRecDepth 100000
open Go.RowKit
set_option linter.unusedVariables false
theorem from_drew {W w2 : World} (hb : Below W.drew.heap.size W.drew w2) : Below W.heap.size W w2 := (Below.refl _ _).drew.trans hb
theorem set_cells {w w1 : World} {N : Nat} {T : TypeId} (h : Kept w N T w1) (u v : Value) :
    ((w1.setCell ⟨N, 0, none⟩ u).setCell ⟨N, 1, none⟩ v).cell? ⟨N, 0, none⟩ = some u ∧ ((w1.setCell ⟨N, 0, none⟩ u).setCell ⟨N, 1, none⟩ v).cell? ⟨N, 1, none⟩ = some v := by
  obtain ⟨h1, h2, x, y, h3⟩ := h
  have h4 := set_two (u := u) (v := v) h3
  exact ⟨by simp [World.cell?, h4], by simp [World.cell?, h4]⟩
abbrev SixAt (X M P : Nat) (a b c d e f : Value) (w : World) : Prop :=
  (w.cell? ⟨X, 0, none⟩ = some a ∧ w.cell? ⟨X, 1, none⟩ = some b) ∧ (w.cell? ⟨M, 0, none⟩ = some c ∧ w.cell? ⟨M, 1, none⟩ = some d) ∧ (w.cell? ⟨P, 0, none⟩ = some e ∧ w.cell? ⟨P, 1, none⟩ = some f)
theorem SixAt.call {X M P : Nat} {a b c d e f : Value} {w w' : World} (h : SixAt X M P a b c d e f w) (hb : Below w.heap.size w w') : SixAt X M P a b c d e f w' := by
  obtain ⟨⟨h1, h2⟩, ⟨h3, h4⟩, h5, h6⟩ := h
  exact ⟨⟨cell_later hb h1, cell_later hb h2⟩, ⟨cell_later hb h3, cell_later hb h4⟩, cell_later hb h5, cell_later hb h6⟩
end Go.Proofs.YtigikgphipebiaaGreatDoor
/- What Bits of package bushelref02 answers. -/
namespace Go.Proofs.YtigikgphipebiaaGreatDoor
set_option maxRecDepth 100000
open Go.RowKit
set_option linter.unusedVariables false
def BitsRel (w : World) (X P : Nat) (a b : Value) (z : Int) (n : Nat) (W : World) : Prop :=
  (∃ u t, (W.cell? ⟨P, 0, none⟩ = some u ∧ W.cell? ⟨P, 1, none⟩ = some t) ∧ IsNum W (.agg #[u, t]) (2 ^ n)) ∧ (W.cell? ⟨X, 0, none⟩ = some a ∧ W.cell? ⟨X, 1, none⟩ = some b) ∧ Kept w P 89 W ∧ IsNum W (.agg #[a, b]) z
theorem BitsRel.next {w W W1 W2 : World} {X P : Nat} {a b u t : Value} {z : Int} {n : Nat} (h : BitsRel w X P a b z n W) (hXP : X ≠ P) (h1 : Below W.heap.size W W1) (h2 : Below W1.heap.size W1 W2) (hr : IsNum W2 (.agg #[u, t]) (2 ^ (n + 1))) :
    BitsRel w X P a b z (n + 1) ((W2.setCell ⟨P, 0, none⟩ u).setCell ⟨P, 1, none⟩ t) := by
  obtain ⟨-, ⟨x1, x2⟩, hk, hz⟩ := h
  have hk2 := (hk.call h1).call h2
  have y1 := cell_later h2 (cell_later h1 x1)
  have y2 := cell_later h2 (cell_later h1 x2)
  obtain ⟨k1, k2, p, q, k3⟩ := id hk2
  obtain ⟨cur, k4⟩ := heap_setCell_cells (p := ⟨P, 0, none⟩) (u := u) k3
  refine ⟨⟨u, t, set_cells hk2 u t, hk2.num hr⟩, ⟨?_, ?_⟩, hk2.store u t, (((hz.below h1).below h2).set u k3 (by decide)).set t k4 (by decide)⟩
  · rw [World.cell?_setCell_far _ _ _ _ (by simp; omega), World.cell?_setCell_far _ _ _ _ (by simp; omega)]; exact y1
  · rw [World.cell?_setCell_far _ _ _ _ (by simp; omega), World.cell?_setCell_far _ _ _ _ (by simp; omega)]; exact y2
end Go.Proofs.YtigikgphipebiaaGreatDoor
/- What Of of package bushelref02 returns. -/
namespace Go.Proofs.YtigikgphipebiaaGreatDoor
set_option maxRecDepth 100000
open Go.RowKit
set_option linter.unusedVariables false
/-- A row of digits of the call's own. -/
def IRow (w : World) (B g cap : Nat) (a : List Int) : Prop := w.ownsRow B 3 1 (.slice (some ⟨g, 0, none⟩) a.length cap) a.length (a.map (Value.int .i64))
theorem IRow.facts {w : World} {B g cap : Nat} {a : List Int} (h : IRow w B g cap a) : B ≤ g ∧ g < w.heap.size ∧ a.length ≤ cap ∧ cap ≤ maxLen ∧ ∀ j, j < a.length → w.cell? ⟨g, j, none⟩ = some (.int .i64 (a.getD j 0)) ∧ w.frozen? ⟨g, j, none⟩ = false := by
  have h0 := h
  obtain ⟨hl, hh⟩ := h
  have h1 := World.ownsRow.lt h0 g rfl
  refine ⟨h1.1, h1.2, ?_, ?_, fun j hj => ⟨?_, World.ownsRow.frozenAt h0 j⟩⟩
  · rcases hh with ⟨e, _⟩ | ⟨g', cap', cur, e, _, _, hc, _⟩
    · simp at e
    · simp at e; omega
  · rcases hh with ⟨e, _⟩ | ⟨g', cap', cur, e, _, _, _, hc, _⟩
    · simp at e
    · simp at e; omega
  · rw [World.ownsRow.cellAt h0 j (by omega)]
    simp [List.getD, hj]
theorem IRow.set {w : World} {B g cap : Nat} {a : List Int} (h : IRow w B g cap a) (j : Nat) (x : Int) : IRow (w.setCell ⟨g, j, none⟩ (.int .i64 x)) B g cap (a.set j x) := by
  have := (World.ownsRow.stored h j (.int .i64 x)).1
  simpa [IRow, List.map_set] using this
theorem IRow.cut {w : World} {B g cap n : Nat} {a : List Int} (h : IRow w B g cap a) (hn : n ≤ a.length) : IRow w B g cap (a.take n) := by
  have hl : (a.take n).length = n := by rw [List.length_take]; omega
  obtain ⟨k1, k2⟩ := h
  refine ⟨by simp, ?_⟩
  rcases k2 with ⟨e, _⟩ | ⟨g', cap', cur, e, q1, q2, q3, q4, q5, q6⟩
  · simp at e
  · refine .inr ⟨g', cap', cur, by simp at e ⊢; exact ⟨e.1, e.2⟩, q1, q2, by omega, q4, q5, ?_⟩
    have := congrArg (List.take n) q6
    rw [List.take_take] at this
    rw [hl, show n * 1 = min n (a.length * 1) from by omega, this, List.map_take]
theorem iother {w : World} {B : Nat} {rv dv : Value} {n m : Nat} {xs ys : List Value} (hr : w.ownsRow B 3 1 rv n xs) (hd : w.ownsRow B 27 1 dv m ys) : rv.ownBlock = none ∨ rv.ownBlock ≠ dv.ownBlock := by
  rcases hr.2 with ⟨rfl, _⟩ | ⟨g, cap, cur, rfl, _, h1, _⟩
  · exact .inl rfl
  · rcases hd.2 with ⟨rfl, _⟩ | ⟨g', cap', cur', rfl, _, h2, _⟩
    · exact .inr (by simp [Value.ownBlock])
    · refine .inr (fun e => ?_)
      simp only [Value.ownBlock, Option.some.injEq] at e
      subst e
      rw [h1] at h2
      simp only [Option.some.injEq, Obj.cells.injEq] at h2
      exact absurd h2.2.1 (by decide)
theorem iother' {w : World} {B : Nat} {rv dv : Value} {n m : Nat} {xs ys : List Value} (hr : w.ownsRow B 3 1 rv n xs) (hd : w.ownsRow B 27 1 dv m ys) : dv.ownBlock ≠ rv.ownBlock ∨ rv.ownBlock = none := by
  rcases iother hr hd with h | h
  · exact .inr h
  · exact .inl (fun e => h e.symm)
/-- In the middle of a division. -/
def OfMid (w : World) (z : Int) (g cap : Nat) (ds o out : List Int) (m : Nat) (r : Int) (ov : Value) (wr : World) : Prop :=
  IRow wr w.heap.size g cap o ∧ DDivRel ds m o r ∧ wr.ownsRow w.heap.size 27 1 ov out.length (out.map (Value.int .u32)) ∧ Below w.heap.size w wr
theorem OfMid.next {w wr : World} {z : Int} {g cap m : Nat} {ds o out : List Int} {r : Int} {ov : Value} (h : OfMid w z g cap ds o out (m + 1) r ov wr) (hm : m < ds.length) (y : Int) (hy : o.getD m 0 = y) :
    OfMid w z g cap ds (o.set m ((r * 1000 + y) / 4294967296)) out m ((r * 1000 + y) % 4294967296) ov (wr.setCell ⟨g, m, none⟩ (.int .i64 ((r * 1000 + y) / 4294967296))) := by
  obtain ⟨h1, h2, h3, h4⟩ := h
  refine ⟨h1.set m _, h2.step hm y hy, ?_, h4.setCell h1.facts.1 _⟩
  have honly := (Only.refl g wr).set m (.int .i64 ((r * 1000 + y) / 4294967296))
  refine honly.row h3 ?_
  rcases iother' h1 h3 with e | e
  · simpa [Value.ownBlock] using e
  · simp [Value.ownBlock] at e
theorem OfMid.push {w wr w1 : World} {z : Int} {g cap : Nat} {ds o out : List Int} {r : Int} {ov ov' : Value} {ob : Obj} (h : OfMid w z g cap ds o out 0 r ov wr)
    (hown : w1.ownsRow w.heap.size 27 1 ov' (out.length + 1) (out.map (Value.int .u32) ++ [.int .u32 r])) (hg : (wr.alloc ob).grownBy w1 ov.ownBlock) :
    IRow w1 w.heap.size g cap o ∧ w1.ownsRow w.heap.size 27 1 ov' (out ++ [r]).length ((out ++ [r]).map (Value.int .u32)) ∧ Below w.heap.size w w1 := by
  obtain ⟨h1, h2, h3, h4⟩ := h
  refine ⟨World.ownsRow.kept (World.ownsRow.alloc h1 ob) hg (iother h1 h3), by simpa using hown, ?_⟩
  refine (h4.alloc h4.size ob).grown hg ?_ ?_
  · have := h4.size; simp; omega
  · intro k hk; exact (h3.lt k hk).1
end Go.Proofs.YtigikgphipebiaaGreatDoor
/- A float times a power of two, and a float's sign: what package math returns. -/
namespace Go.Proofs.YtigikgphipebiaaGreatDoor
set_option maxRecDepth 100000
open Go.RowKit
set_option linter.unusedVariables false
def Tab64 (w : World) : Prop := TabAt 2 Lib.deBruijn64tab w
theorem Tab64.call {w w' : World} (h : Tab64 w) (hb : Below w.heap.size w w') : Tab64 w' := fun j hj => cell_later hb (h j hj)
set_option maxHeartbeats 1000000 in
theorem tz64_core (x k idx : Nat) (w : World) (hx0 : ((x : Int) == 0) = false)
    (key : IntKind.u64.wrap (bits BinOp.and IntKind.u64 (x : Int) (IntKind.u64.wrap (-(x : Int))) * 285870213051353865) / 288230376151711744 = (idx : Int))
    (hi : idx < 64) (hk : k < 64) (hcell : w.cell? ⟨2, idx, none⟩ = some (.int .u8 k)) :
    Calls Tryz.prog 232 #[.int .u64 x] w fun e w' => e = .returned (.int .i64 k) ∧ w = w' := by
  go_enter Tryz.func232, Tryz.ntmps232
  go_wp2_with (simp only [key])
  go_ret
  exact ⟨rfl, rfl⟩
theorem tz64_any (x : Nat) (hx : x < 18446744073709551616) (hx0 : x ≠ 0) (w : World) (hT : Tab64 w) :
    Calls Tryz.prog 232 #[.int .u64 x] w fun e w' => e = .returned (.int .i64 (Lib.ctz 64 x)) ∧ w = w' := by
  obtain ⟨hlow, hk⟩ := Lib.lowest_bit 64 x hx0 hx
  obtain ⟨hi, htab⟩ := Lib.deBruijn64_at _ hk
  have hcell := hT _ hi
  rw [htab] at hcell
  exact tz64_core x _ _ w (by simp; omega) (tz64_key x _ hx hx0 hlow) hi hk hcell
def NormPost (c : Nat) (q : Int) (w : World) (e : Ending) (w' : World) : Prop := (∃ (d : Nat) (p k : Int), 4503599627370496 ≤ d ∧ d < 9007199254740992 ∧ -1074 ≤ p ∧ p ≤ 971 ∧ SameD d (p + k) c q ∧ -52 ≤ k ∧ k ≤ 0 ∧ e = .returned (.tuple #[.float .f64 (rungOf d p), .int .i64 k])) ∧ w = w'
theorem norm_low {c : Nat} (h0 : c ≠ 0) (h1 : c < 4503599627370496) : ∃ d p, 4503599627370496 ≤ d ∧ d < 9007199254740992 ∧ -1074 ≤ p ∧ p ≤ 971 ∧ SameD d (p + -52) c (-1074) ∧ floatBits .mul .f64 (rungOf c (-1074)) 4841369599423283200 = some (rungOf d p) := by
  obtain ⟨d, p, k1, k2, k3⟩ := canon_ex _ c (-1022) (Nat.le_refl _) (by omega) (by omega)
  have hd : 4503599627370496 ≤ d := by
    obtain ⟨a, b, h | h⟩ := k2
    · exact h
    · subst h
      obtain ⟨k, ⟨g1, g2⟩ | ⟨g1, g2⟩⟩ := k1
      · obtain rfl : k = 52 := by omega
        omega
      · omega
  have hc : Canon c (-1074) := ⟨by omega, by omega, .inr rfl⟩
  have h52 : FV false 4841369599423283200 1 52 := ⟨4503599627370496, 0, ⟨52, .inl ⟨by decide, by decide⟩⟩, ⟨by decide, by decide, .inl (by decide)⟩, by decide, by decide⟩
  refine ⟨d, p, hd, k2.1, k2.2.1, by omega, ?_, fv_mul (fvc hc (by omega)) h52 ?_⟩
  · have := (k1.add (-52)).symm
    exact this
  · rw [Nat.mul_one]
    exact (fvc k2 (by omega)).same k1
set_option maxHeartbeats 1000000 in
theorem norm_any (c : Nat) (q : Int) (w : World) (hc : Canon c q) (hq : q ≤ 971) (h0 : c ≠ 0) :
    Calls Tryz.prog 248 #[.float .f64 (rungOf c q)] w (NormPost c q w) := by
  have hr := rung_lt hc hq
  have hw := (rung_w64 hc hq).1
  have hn := (rung_w64 hc hq).2
  have hA := Lib.hid (fun w => fabs_any (rungOf c q) w hw)
  rw [show rungOf c q % 9223372036854775808 = rungOf c q by omega] at hA
  have hlt := ord_lt hn (y := 4503599627370496) ⟨by decide, by decide⟩
  rw [skey_pos (by omega), skey_pos (x := 4503599627370496) (by omega)] at hlt
  unfold NormPost
  by_cases h : rungOf c q < 4503599627370496
  · have hq2 : q = -1074 := by obtain ⟨a, b, d⟩ := hc; unfold rungOf at h; omega
    subst hq2
    have hc52 : c < 4503599627370496 := by unfold rungOf at h; omega
    obtain ⟨d, p, k1, k2, k3, k4, k5, k6⟩ := norm_low h0 hc52
    have hl : (FloatKind.f64.format.order (rungOf c (-1074)) 4503599627370496 == some .lt) = true := by rw [hlt]; simp; omega
    have hop : ∀ t w, (binOp .mul t (.float .f64 (rungOf c (-1074))) (.float .f64 4841369599423283200)).run Tryz.prog w = .ok (.float .f64 (rungOf d p)) w := fun t w => run_float_arith w .mul t .f64 _ _ _ k6
    have hE := Lib.hid (show ∃ (d' : Nat) (p' k' : Int), 4503599627370496 ≤ d' ∧ d' < 9007199254740992 ∧ -1074 ≤ p' ∧ p' ≤ 971 ∧ SameD d' (p' + k') c (-1074) ∧ -52 ≤ k' ∧ k' ≤ 0 ∧ Ending.returned (.tuple #[.float .f64 (rungOf d p), .int .i64 (-52)]) = .returned (.tuple #[.float .f64 (rungOf d' p'), .int .i64 k']) from ⟨d, p, -52, k1, k2, k3, k4, k5, by omega, by omega, rfl⟩)
    generalize rungOf c (-1074) = X at *
    generalize rungOf d p = R at *
    clear hlt h hc hq h0 hr hw hn hc52 k1 k2 k3 k4 k5 k6
    go_enter Tryz.func248, Tryz.ntmps248
    go_wp2_with fail
    refine (hA.out _).mono ?_; rintro e w1 ⟨rfl, rfl⟩
    go_wp2_with (simp only)
    go_ret2
    exact ⟨hE.out, rfl⟩
  · have hd : 4503599627370496 ≤ c := by obtain ⟨a, b, d⟩ := hc; unfold rungOf at h; omega
    have hl : (FloatKind.f64.format.order (rungOf c q) 4503599627370496 == some .lt) = false := by rw [hlt]; simp; omega
    have hE := Lib.hid (show ∃ (d' : Nat) (p' k' : Int), 4503599627370496 ≤ d' ∧ d' < 9007199254740992 ∧ -1074 ≤ p' ∧ p' ≤ 971 ∧ SameD d' (p' + k') c q ∧ -52 ≤ k' ∧ k' ≤ 0 ∧ Ending.returned (.tuple #[.float .f64 (rungOf c q), .int .i64 0]) = .returned (.tuple #[.float .f64 (rungOf d' p'), .int .i64 k']) from ⟨c, q, 0, hd, hc.1, hc.2.1, hq, by rw [Int.add_zero]; exact SameD.refl _ _, by omega, by omega, rfl⟩)
    generalize rungOf c q = X at *
    clear hlt h hc hq h0 hr hw hn hd
    go_enter Tryz.func248, Tryz.ntmps248
    go_wp2_with fail
    refine (hA.out _).mono ?_; rintro e w1 ⟨rfl, rfl⟩
    go_wp2_with fail
    go_ret2
    exact ⟨hE.out, rfl⟩
/-- What is known of a finite number's bits. -/
theorem fin_tests {c : Nat} {q : Int} (hc : Canon c q) (hq : q ≤ 971) (h0 : c ≠ 0) : isNaNB (rungOf c q) = false ∧ isInfB (rungOf c q) = false ∧ isZeroB (rungOf c q) = false ∧ kindI (rungOf c q) = 1 := by
  have hr := rung_lt hc hq
  have hp : 0 < rungOf c q := by unfold rungOf; omega
  have h1 : isNaNB (rungOf c q) = false := by unfold isNaNB; simp; omega
  have h2 : isInfB (rungOf c q) = false := by unfold isInfB; simp; omega
  have h3 : isZeroB (rungOf c q) = false := by unfold isZeroB; simp; omega
  exact ⟨h1, h2, h3, by unfold kindI; rw [h1, h2, h3]; rfl⟩
theorem ret_fi {a b : Nat} {i j : Int} (h : a = b) (h2 : i = j) : Ending.returned (.tuple #[.float .f64 a, .int .i64 i]) = .returned (.tuple #[.float .f64 b, .int .i64 j]) := by rw [h, h2]
def FrexpPost (c : Nat) (q : Int) (w : World) (e : Ending) (w' : World) : Prop := (∃ (d : Nat) (k : Int), 4503599627370496 ≤ d ∧ d < 9007199254740992 ∧ SameD d (k - 53) c q ∧ -1200 ≤ k ∧ k ≤ 1100 ∧ e = .returned (.tuple #[.float .f64 (rungOf d (-53)), .int .i64 k])) ∧ w = w'
theorem frexp_bits {d : Nat} {p : Int} (h1 : 4503599627370496 ≤ d) (h2 : d < 9007199254740992) (h3 : -1074 ≤ p) (h4 : p ≤ 971) :
    (rungOf d p : Int) / 4503599627370496 = p + 1075 ∧ (rungOf d p : Int) % 4503599627370496 = d - 4503599627370496 ∧ (rungOf d p : Int) < 9223372036854775808 := by
  unfold rungOf; omega
set_option maxHeartbeats 2000000 in
theorem frexp_core (c : Nat) (q : Int) (w : World) (hc : Canon c q) (hq : q ≤ 971) (h0 : c ≠ 0) :
    Calls Tryz.prog 246 #[.float .f64 (rungOf c q)] w (FrexpPost c q w) := by
  obtain ⟨t1, t2, t3, t4⟩ := fin_tests hc hq h0
  have hw := (rung_w64 hc hq).1
  have hZ := zero_test _ hw
  have hI := Lib.hid (fun w => isInf_any _ w hw)
  have hN := Lib.hid (fun w => isNaN_any _ w hw)
  rw [t3] at hZ
  rw [t2] at hI
  rw [t1] at hN
  have hM := Lib.hid (fun w => norm_any c q w hc hq h0)
  have hF := fun x w => fbits x w
  have hG := fun n w => ffrom n w
  unfold FrexpPost
  generalize rungOf c q = X at *
  clear t1 t2 t3 t4 hw
  go_enter Tryz.func246, Tryz.ntmps246
  go_wp2_with fail
  refine (hI.out _).mono ?_; rintro e w1 ⟨rfl, rfl⟩
  go_wp2_with fail
  refine (hN.out _).mono ?_; rintro e w1 ⟨rfl, rfl⟩
  go_wp2_with fail
  refine (hM.out _).mono ?_; rintro e w1 ⟨⟨d, p, k, k1, k2, k3, k4, k5, k6, k7, rfl⟩, rfl⟩
  obtain ⟨b1, b2, b3⟩ := frexp_bits k1 k2 k3 k4
  have hS := Lib.hid (show SameD d (k + (p + 53) - 53) c q by rw [show k + (p + 53) - 53 = p + k by omega]; exact k5)
  have hv := Lib.hid (show d - 4503599627370496 + 4602678819172646912 = rungOf d (-53) by unfold rungOf; omega)
  have hb0 : (0 : Int) ≤ (rungOf d p : Int) := by omega
  have hA := low11 (p + 1075) (by omega) (by omega)
  rw [show (p + 1075) % 2048 = p + 1075 by omega] at hA
  have hC := clrExp (rungOf d p : Int) hb0 b3
  rw [b2] at hC
  have hO := orExp ((d : Int) - 4503599627370496) 1022 (by omega) (by omega) (by omega)
  rw [show ((1022 : Nat) : Int) * 4503599627370496 = 4602678819172646912 by decide] at hO
  generalize rungOf d p = R at *
  clear hI hN hM hZ k5 b2
  go_wp2_with (first | simp only | simp only [hC] | simp only [hO])
  go_ret2
  exact ⟨⟨d, k + (p + 53), k1, k2, hS.out, by omega, by omega, ret_fi hv.out (by omega)⟩, rfl⟩
theorem frexp_any (c : Nat) (q : Int) (w : World) (hc : Canon c q) (hq : q ≤ 971) (h0 : c ≠ 0) :
    Calls Tryz.prog 230 #[.float .f64 (rungOf c q)] w (FrexpPost c q w) := by
  have hM := Lib.hid (fun w => frexp_core c q w hc hq h0)
  unfold FrexpPost at *
  generalize rungOf c q = X at *
  go_enter Tryz.func230, Tryz.ntmps230
  go_wp2_with fail
  refine (hM.out _).mono ?_; rintro e w1 ⟨⟨d, k, k1, k2, k3, k4, k5, rfl⟩, rfl⟩
  have k3 := Lib.hid k3
  generalize hv : rungOf d (-53) = R at *
  have hv := Lib.hid hv
  go_wp2_with fail
  go_ret2
  exact ⟨⟨d, k, k1, k2, k3.out, k4, k5, ret_fi hv.out.symm rfl⟩, rfl⟩
theorem fshr_split {c d : Nat} {q k : Int} (h1 : 4503599627370496 ≤ d) (h2 : d < 9007199254740992) (hs : SameD d (k - 53) c q) : Lib.ctz 64 d < 64 ∧ IsSplit c q ((d : Int) / 2 ^ Lib.ctz 64 d) (k - 53 + Lib.ctz 64 d) := by
  obtain ⟨m, hm, hlt⟩ := Lib.ctzFrom_spec 64 d (by omega) (by omega)
  have hc : Lib.ctz 64 d = Lib.ctzFrom 64 d := by unfold Lib.ctz; rw [if_neg (by omega)]
  rw [hc]
  generalize Lib.ctzFrom 64 d = t at *
  have hp := n_pow_pos t
  have hq : d / 2 ^ t = 2 * m + 1 := by rw [hm]; exact Nat.mul_div_cancel_left _ hp
  have hi : (d : Int) / 2 ^ t = ((2 * m + 1 : Nat) : Int) := by
    have e : ((2 : Int) ^ t) = ((2 ^ t : Nat) : Int) := by simp
    rw [e, ← Int.natCast_ediv, hq]
  have hle : 2 * m + 1 ≤ d := by rw [hm]; exact Nat.le_mul_of_pos_left _ hp
  refine ⟨hlt, ?_⟩
  rw [hi]
  refine ⟨by omega, by omega, SameD.trans ⟨t, .inl ⟨by omega, ?_⟩⟩ hs, by omega⟩
  rw [Int.toNat_natCast, Nat.mul_comm]; exact hm
def PSplitPost (x c : Nat) (q : Int) (w : World) (e : Ending) (w' : World) : Prop := (∃ m k : Int, IsSplit c q m k ∧ e = .returned (.tuple #[.bool (negB x), .int .u64 m, .int .i64 k])) ∧ Drawn w w'
set_option maxHeartbeats 2000000 in
theorem psplit_fin (x c : Nat) (q : Int) (w : World) (hx : W64 x) (hk : kindI x = 1) (hc : Canon c q) (hq : q ≤ 971) (h0 : c ≠ 0) (hr : rungOf c q = x % 9223372036854775808) (hT : Tab64 w) :
    Calls Tryz.prog 203 #[.float .f64 x] w (PSplitPost x c q w) := by
  have hA := Lib.hid (fun w => fkind_any x w hx)
  rw [hk] at hA
  obtain ⟨g1, g2, g3, g4, g5⟩ := kind_one hx hk
  have hL := lt_zero hx g1 g3
  have hB := Lib.hid (fun w => fabs_any x w hx)
  rw [← hr] at hB
  have hF := Lib.hid (fun w => frexp_any c q w hc hq h0)
  have HT := Lib.hid hT
  have h53 : FV false 4845873199050653696 1 53 := ⟨4503599627370496, 1, ⟨52, .inl ⟨by decide, by decide⟩⟩, ⟨by decide, by decide, .inl (by decide)⟩, by decide, by decide⟩
  have hop : ∀ d : Nat, 4503599627370496 ≤ d → d < 9007199254740992 → ∀ t w, (binOp .mul t (.float .f64 (rungOf d (-53))) (.float .f64 4845873199050653696)).run Tryz.prog w = .ok (.float .f64 (rungOf d 0)) w := fun d k1 k2 t w => run_float_arith w .mul t .f64 _ _ _ (fv_mul (fvc ⟨k2, by omega, .inl k1⟩ (by omega)) h53 (by rw [Nat.mul_one]; exact fvc ⟨k2, by omega, .inl k1⟩ (by omega)))
  have hcv : ∀ d : Nat, 4503599627370496 ≤ d → d < 9007199254740992 → ∀ w, (convert 59 37 (.float .f64 (rungOf d 0))).run Tryz.prog w = .ok (.int .u64 (d : Int)) w := fun d k1 k2 w => run_convert_float_int w 59 37 .f64 .u64 _ _ (by rw [Tryz.underlying59]; rfl) Tryz.underlying37 (by
    have h := whole_cut (c := d) (q := 0) ⟨k2, by omega, .inl k1⟩ (by omega)
    have e : wholeN d 0 = d := by unfold wholeN; simp
    rw [e] at h; exact h)
  have Hop := Lib.hid hop
  have Hcv := Lib.hid hcv
  clear hop hcv hT
  unfold PSplitPost
  generalize hb : negB x = b at *
  generalize rungOf c q = X at *
  clear hk hr g1 g2 g3 g4 g5 hc hq h0 hb h53
  go_enter Tryz.func203, Tryz.ntmps203
  go_wp2_with fail
  refine (hA.out _).mono ?_; rintro e w1 ⟨rfl, rfl⟩
  go_wp2_with fail
  refine (hB.out _).mono ?_; rintro e w1 ⟨rfl, rfl⟩
  go_wp2_with fail
  refine (hF.out _).mono ?_; rintro e w1 ⟨⟨d, k, k1, k2, k3, k4, k5, rfl⟩, rfl⟩
  have hop := Hop.out d k1 k2
  have hcv := Hcv.out d k1 k2
  have hTz := Lib.hid (tz64_any d (by omega) (by omega) w HT.out)
  obtain ⟨ht, hs⟩ := fshr_split k1 k2 k3
  have hs := Lib.hid hs
  generalize rungOf d (-53) = R1 at *
  generalize rungOf d 0 = R2 at *
  generalize Lib.ctz 64 d = t at *
  clear hA hB hF k3
  go_wp2_with (first | simp only | simp only [hcv])
  refine (hTz.out).mono ?_; rintro e w1 ⟨rfl, rfl⟩
  clear hTz hop hcv
  go_wp2_with fail
  go_quiet (fail)
  go_wp2_with fail
  go_ret3
  exact ⟨⟨_, _, hs.out, rfl⟩, (Drawn.refl _).next _⟩
theorem psplit_other (x : Nat) (w : World) (hx : W64 x) (hk : kindI x ≠ 1) :
    Calls Tryz.prog 203 #[.float .f64 x] w fun e w' => e = .returned (.tuple #[.bool (belowB x), .int .u64 0, .int .i64 0]) ∧ w = w' := by
  have hA := Lib.hid (fun w => fkind_any x w hx)
  have hS := Lib.hid (fun w => signbit_any x w hx)
  have k3 := kind_nan x
  have k1 : (kindI x != 1) = true := by simpa using hk
  unfold belowB
  generalize isNaNB x = n at *
  generalize negB x = b at *
  generalize kindI x = K at *
  clear hk
  cases n
  · go_enter Tryz.func203, Tryz.ntmps203
    go_wp2_with fail
    refine (hA.out _).mono ?_; rintro e w1 ⟨rfl, rfl⟩
    go_wp2_with fail
    refine (hS.out _).mono ?_; rintro e w1 ⟨rfl, rfl⟩
    go_wp2_with fail
    go_ret3
    exact ⟨rfl, rfl⟩
  · go_enter Tryz.func203, Tryz.ntmps203
    go_wp2_with fail
    refine (hA.out _).mono ?_; rintro e w1 ⟨rfl, rfl⟩
    go_wp2_with fail
    go_ret3
    exact ⟨rfl, rfl⟩
set_option maxRecDepth 100000
open Go.RowKit
set_option linter.unusedVariables false
theorem copysign_pos (x : Nat) (w : World) (hx : x < 9223372036854775808) :
    Calls Tryz.prog 134 #[.float .f64 x, .float .f64 13830554455654793216] w fun e w' => e = .returned (.float .f64 (x + 9223372036854775808)) ∧ w = w' := by
  have hF := fun x w => fbits x w
  have hG := fun n w => ffrom n w
  have h1 := clr63 (x : Int) (by omega) (by omega)
  rw [show (x : Int) % 9223372036854775808 = x by omega] at h1
  have h2 := sgn63 13830554455654793216 (by omega) (by omega)
  rw [if_neg (by omega)] at h2
  have h3 := or63 (x : Int) (by omega) (by omega)
  go_enter Tryz.func134, Tryz.ntmps134
  go_wp2_with fail
  go_ret
  exact ⟨ret_float (by omega), rfl⟩
theorem ldexp_exp {c d : Nat} {q p k k0 : Int} (hd : 4503599627370496 ≤ d) (hd2 : d < 9007199254740992) (hc0 : c ≠ 0) (hs : SameD d (p + k0) c q) : k + k0 + p + 52 = q + k + c.log2 := by
  have h1 := hs.log2 hc0
  have h2 := log2_le hd2
  have h3 : ¬ d.log2 < 52 := by rw [Nat.log2_lt (by omega)]; omega
  omega
theorem FV.expo {R c : Nat} {q : Int} (h : FV false R c q) (h0 : c ≠ 0) : -1074 ≤ q + c.log2 ∧ q + c.log2 ≤ 1023 := by
  obtain ⟨d, p, h1, h2, h3, -⟩ := h
  have hd : d ≠ 0 := fun e => h0 (h1.zero.2 e)
  have h4 := h1.log2 hd
  have h5 := log2_le h2.1
  have := h2.2.1
  omega
set_option maxHeartbeats 4000000 in
theorem ldexp_fin (c : Nat) (q k : Int) (R : Nat) (w : World) (hc : Canon c q) (hq : q ≤ 971) (h0 : c ≠ 0) (hR : FV false R c (q + k)) (hk0 : -5000 ≤ k) (hk1 : k ≤ 5000) :
    Calls Tryz.prog 237 #[.float .f64 (rungOf c q), .int .i64 k] w fun e w' => e = .returned (.float .f64 R) ∧ w = w' := by
  obtain ⟨t1, t2, t3, t4⟩ := fin_tests hc hq h0
  have hw := (rung_w64 hc hq).1
  have hZ := zero_test _ hw
  have hI := Lib.hid (fun w => isInf_any _ w hw)
  have hN := Lib.hid (fun w => isNaN_any _ w hw)
  rw [t3] at hZ
  rw [t2] at hI
  rw [t1] at hN
  have hM := Lib.hid (fun w => norm_any c q w hc hq h0)
  have hF := fun x w => fbits x w
  have hG := fun n w => ffrom n w
  have hX := hR.expo h0
  clear hw
  generalize rungOf c q = X at *
  clear t1 t2 t3 t4
  go_enter Tryz.func237, Tryz.ntmps237
  go_wp2_with fail
  refine (hI.out _).mono ?_; rintro e w1 ⟨rfl, rfl⟩
  go_wp2_with fail
  refine (hN.out _).mono ?_; rintro e w1 ⟨rfl, rfl⟩
  go_wp2_with fail
  refine (hM.out _).mono ?_; rintro e w1 ⟨⟨d, p, k0, k1, k2, k3, k4, k5, k6, k7, rfl⟩, rfl⟩
  obtain ⟨b1, b2, b3⟩ := frexp_bits k1 k2 k3 k4
  have hb0 : (0 : Int) ≤ (rungOf d p : Int) := by omega
  have hA := low11i (p + 1075) (by omega) (by omega)
  rw [show (p + 1075) % 2048 = p + 1075 by omega] at hA
  have hC := clrExp (rungOf d p : Int) hb0 b3
  rw [b2] at hC
  have hex := ldexp_exp (k := k) (k0 := k0) (p := p) k1 k2 h0 k5
  have hS := Lib.hid (show SameD d (p + k0 + k) c (q + k) from k5.add k)
  rw [← hex] at hX
  obtain ⟨x1, x2⟩ := hX
  clear hex k5
  generalize rungOf d p = Rd at *
  clear hI hN hM hZ b2
  have hRd : FV false R d (k + k0 + p + 52 - 52) := by
    rw [show k + k0 + p + 52 - 52 = p + k0 + k by omega]; exact hR.same hS.out
  have hE : k + k0 + (p + 1075 - 1023) = k + k0 + p + 52 := by omega
  have HE := Lib.hid hE
  clear hE
  go_upto_region 9 with (first | simp only)
  rw [HE.out]
  clear HE hS hR
  generalize k + k0 + p + 52 = E at *
  clear hA b1 b3 hb0 hk0 hk1 hF
  by_cases hden : E < -1022
  · have hcan : Canon d (E + 1) := ⟨k2, by omega, .inl k1⟩
    have h53 : FV false 4368491638549381120 1 (-53) := ⟨4503599627370496, -105, ⟨52, .inl ⟨by decide, by decide⟩⟩, ⟨by decide, by decide, .inl (by decide)⟩, by decide, by decide⟩
    have hop : ∀ t w, (binOp .mul t (.float .f64 4368491638549381120) (.float .f64 (rungOf d (E + 1)))).run Tryz.prog w = .ok (.float .f64 R) w := fun t w => run_float_arith w .mul t .f64 _ _ _ (fv_mul h53 (fvc hcan (by omega)) (by
      rw [Nat.one_mul, show -53 + (E + 1) = E - 52 by omega]; exact hRd))
    have hO := orExp ((d : Int) - 4503599627370496) (E + 53 + 1023).toNat (by omega) (by omega) (by omega)
    rw [Int.toNat_of_nonneg (by omega)] at hO
    rw [show (d : Int) - 4503599627370496 + (E + 53 + 1023) * 4503599627370496 = ((rungOf d (E + 1) : Nat) : Int) by unfold rungOf; omega] at hO
    generalize rungOf d (E + 1) = Y at *
    clear hcan hRd h53
    go_wp2_with (first | simp only [hC] | simp only [hO] | simp only [hop])
    go_ret
    exact ⟨rfl, rfl⟩
  · have hcan : Canon d (E - 52) := ⟨k2, by omega, .inl k1⟩
    have h1 : FV false 4607182418800017408 1 0 := ⟨4503599627370496, -52, ⟨52, .inl ⟨by decide, by decide⟩⟩, ⟨by decide, by decide, .inl (by decide)⟩, by decide, by decide⟩
    have hop : ∀ t w, (binOp .mul t (.float .f64 4607182418800017408) (.float .f64 (rungOf d (E - 52)))).run Tryz.prog w = .ok (.float .f64 R) w := fun t w => run_float_arith w .mul t .f64 _ _ _ (fv_mul h1 (fvc hcan (by omega)) (by
      rw [Nat.one_mul, Int.zero_add]; exact hRd))
    have hO := orExp ((d : Int) - 4503599627370496) (E + 1023).toNat (by omega) (by omega) (by omega)
    rw [Int.toNat_of_nonneg (by omega)] at hO
    rw [show (d : Int) - 4503599627370496 + (E + 1023) * 4503599627370496 = ((rungOf d (E - 52) : Nat) : Int) by unfold rungOf; omega] at hO
    generalize rungOf d (E - 52) = Y at *
    clear hcan hRd h1
    go_wp2_with (first | simp only [hC] | simp only [hO] | simp only [hop])
    go_ret
    exact ⟨rfl, rfl⟩
set_option maxHeartbeats 4000000 in
theorem ldexp_over (c : Nat) (q k : Int) (w : World) (hc : Canon c q) (hq : q ≤ 971) (h0 : c ≠ 0) (hR : 1024 ≤ q + k + c.log2) (hk0 : -5000 ≤ k) (hk1 : k ≤ 5000) :
    Calls Tryz.prog 237 #[.float .f64 (rungOf c q), .int .i64 k] w fun e w' => e = .returned (.float .f64 9218868437227405312) ∧ w = w' := by
  obtain ⟨t1, t2, t3, t4⟩ := fin_tests hc hq h0
  have hw := (rung_w64 hc hq).1
  have hZ := zero_test _ hw
  have hI := Lib.hid (fun w => isInf_any _ w hw)
  have hN := Lib.hid (fun w => isNaN_any _ w hw)
  rw [t3] at hZ
  rw [t2] at hI
  rw [t1] at hN
  have hM := Lib.hid (fun w => norm_any c q w hc hq h0)
  have hF := fun x w => fbits x w
  have HInf := Lib.hid (fun w => finf_any w)
  generalize rungOf c q = X at *
  clear t1 t2 t3 t4 hw
  go_enter Tryz.func237, Tryz.ntmps237
  go_wp2_with fail
  refine (hI.out _).mono ?_; rintro e w1 ⟨rfl, rfl⟩
  go_wp2_with fail
  refine (hN.out _).mono ?_; rintro e w1 ⟨rfl, rfl⟩
  go_wp2_with fail
  refine (hM.out _).mono ?_; rintro e w1 ⟨⟨d, p, k0, k1, k2, k3, k4, k5, k6, k7, rfl⟩, rfl⟩
  obtain ⟨b1, b2, b3⟩ := frexp_bits k1 k2 k3 k4
  have hb0 : (0 : Int) ≤ (rungOf d p : Int) := by omega
  have hA := low11i (p + 1075) (by omega) (by omega)
  rw [show (p + 1075) % 2048 = p + 1075 by omega] at hA
  have hex := ldexp_exp (k := k) (k0 := k0) (p := p) k1 k2 h0 k5
  rw [← hex] at hR
  have hneg := ord_lt (rung_w64 (c := d) (q := p) ⟨k2, k3, .inl k1⟩ k4).2 (y := 0) ⟨by decide, by decide⟩
  rw [skey_pos (by omega), skey_pos (x := 0) (by omega)] at hneg
  have hng : (FloatKind.f64.format.order (rungOf d p) 0 == some .lt) = false := by rw [hneg]; simp
  clear hex k5 hneg
  generalize rungOf d p = Rd at *
  clear hI hN hM hZ b2
  have hE : k + k0 + (p + 1075 - 1023) = k + k0 + p + 52 := by omega
  have HE := Lib.hid hE
  clear hE
  go_upto_region 9 with (first | simp only)
  rw [HE.out]
  clear HE
  generalize k + k0 + p + 52 = E at *
  clear hA b1 b3 hb0 hk0 hk1 hF
  go_wp2_with fail
  refine (HInf.out _).mono ?_; rintro e w1 ⟨rfl, rfl⟩
  go_wp2_with fail
  go_ret
  exact ⟨rfl, rfl⟩
theorem ldexp_zero (k : Int) (w : World) :
    Calls Tryz.prog 237 #[.float .f64 0, .int .i64 k] w fun e w' => e = .returned (.float .f64 0) ∧ w = w' := by
  have h2 : (FloatKind.f64.format.order 0 0 == some .eq) = true := by decide +kernel
  go_enter Tryz.func237, Tryz.ntmps237
  go_wp2_with fail
  go_ret
  exact ⟨rfl, rfl⟩
theorem Ldexp_of (X R : Nat) (k : Int) (w : World) (h : ∀ w, Calls Tryz.prog 237 #[.float .f64 X, .int .i64 k] w fun e w' => e = .returned (.float .f64 R) ∧ w = w') :
    Calls Tryz.prog 208 #[.float .f64 X, .int .i64 k] w fun e w' => e = .returned (.float .f64 R) ∧ w = w' := by
  have H := Lib.hid h
  clear h
  go_enter Tryz.func208, Tryz.ntmps208
  go_wp2_with fail
  refine (H.out _).mono ?_; rintro e w1 ⟨rfl, rfl⟩
  go_wp2_with fail
  go_ret
  exact ⟨rfl, rfl⟩
end Go.Proofs.YtigikgphipebiaaGreatDoor
