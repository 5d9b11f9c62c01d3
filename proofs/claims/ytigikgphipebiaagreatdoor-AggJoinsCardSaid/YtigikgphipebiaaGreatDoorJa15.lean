/- Contracts that the law leans on, pruned and merged: Numw Numx Awake2 Laid2 Meet Natw. -/
import Derived.Deep.RegionWith
import Derived.Deep.RegionHeld3
import Derived.ProofKit
import Derived.LaidMore
import Derived.OpenShut
import Derived.Stop.Joined
import Derived.Lib.LaidTab
import Derived.Outline
import Derived.Deep.LoopGhost
import Derived.Test.YtigikgphipebiaaGreatDoorRows
import Derived.Test.YtigikgphipebiaaGreatDoorJa13
import Derived.Test.YtigikgphipebiaaGreatDoorJa14
/- What the reference of layer 2 makes of a list of words: its number; and whether a list is the trim one of a number. -/
namespace Go.Proofs.YtigikgphipebiaaGreatDoor
set_option maxRecDepth 100000
open Go.RowKit
set_option linter.unusedVariables false
theorem below_drew' {w w' : World} (h : Below w.drew.heap.size w.drew w') : Below w.heap.size w w' := (Below.refl _ _).drew.trans h
/-- A variable that holds a number. -/
def NumBox (w : World) (N : Nat) (z : Int) (wr : World) : Prop :=
  (∃ x y, wr.cell? ⟨N, 0, none⟩ = some x ∧ wr.cell? ⟨N, 1, none⟩ = some y ∧ IsNum wr (.agg #[x, y]) z) ∧ Kept w N 89 wr
theorem set_cells' {w w1 : World} {N : Nat} {T : TypeId} (h : Kept w N T w1) (u v : Value) :
    ((w1.setCell ⟨N, 0, none⟩ u).setCell ⟨N, 1, none⟩ v).cell? ⟨N, 0, none⟩ = some u ∧ ((w1.setCell ⟨N, 0, none⟩ u).setCell ⟨N, 1, none⟩ v).cell? ⟨N, 1, none⟩ = some v := by
  obtain ⟨h1, h2, x, y, h3⟩ := h
  have h4 := set_two (u := u) (v := v) h3
  exact ⟨by simp [World.cell?, h4], by simp [World.cell?, h4]⟩
theorem box_store {w w2 : World} {N : Nat} {u s : Value} {z : Int} (hk : Kept w N 89 w2) (hq : IsNum w2 (.agg #[u, s]) z) : NumBox w N z ((w2.setCell ⟨N, 0, none⟩ u).setCell ⟨N, 1, none⟩ s) :=
  ⟨⟨u, s, (set_cells' hk u s).1, (set_cells' hk u s).2, hk.num hq⟩, hk.store u s⟩
theorem Kept.far {w w1 : World} {R N : Nat} {T : TypeId} (h : Kept w R T w1) (hne : R ≠ N) (hN : w.heap.size ≤ N) (u v : Value) : Kept w R T ((w1.setCell ⟨N, 0, none⟩ u).setCell ⟨N, 1, none⟩ v) := by
  obtain ⟨h1, h2, x, y, h3⟩ := h
  refine ⟨(h1.setCell hN u).setCell hN v, h2, x, y, ?_⟩
  rw [Below.heap_setCell _ _ _ _ hne, Below.heap_setCell _ _ _ _ hne]; exact h3
theorem NumBox.call {w w1 w2 : World} {N : Nat} {z : Int} (h : NumBox w N z w1) (hb : Below w1.heap.size w1 w2) : NumBox w N z w2 := by
  obtain ⟨⟨x, y, h1, h2, h3⟩, h4⟩ := h
  exact ⟨⟨x, y, cell_later hb h1, cell_later hb h2, h3.below hb⟩, h4.call hb⟩
theorem NumBox.cells {w w1 : World} {N : Nat} {z : Int} (h : NumBox w N z w1) : ∃ nb np nl nc, w1.cell? ⟨N, 0, none⟩ = some (.bool nb) ∧ w1.cell? ⟨N, 1, none⟩ = some (.slice np nl nc) ∧ IsNum w1 (.agg #[.bool nb, .slice np nl nc]) z := by
  obtain ⟨⟨x, y, h1, h2, h3⟩, h4⟩ := h
  obtain ⟨nb, np, nl, nc, e⟩ := h3.shape
  simp only [Value.agg.injEq, Array.mk.injEq, List.cons.injEq, and_true] at e
  obtain ⟨rfl, rfl⟩ := e
  exact ⟨nb, np, nl, nc, h1, h2, h3⟩
theorem isNum_zero {w : World} : IsNum w (.agg #[.bool false, .slice none 0 0]) 0 := ⟨false, _, [], rfl, ⟨none, 0, rfl, by simp, .inl rfl⟩, Typed.none, Dig.nil, .inl rfl, (fun e => by cases e), rfl⟩
theorem q_sized (n : Nat) : (4294967296 : Int) ^ n ≤ 1000 ^ (4 * n) := by
  have : (4294967296 : Nat) ^ n ≤ (1000 ^ 4) ^ n := Nat.pow_le_pow_left (by decide) n
  rw [← Nat.pow_mul] at this
  have e1 : ((4294967296 ^ n : Nat) : Int) = (4294967296 : Int) ^ n := by simp
  have e2 : ((1000 ^ (4 * n) : Nat) : Int) = (1000 : Int) ^ (4 * n) := by simp
  omega
theorem sized_words {z : Int} {n : Nat} (h0 : 0 ≤ z) (h1 : z < 4294967296 ^ n) : Sized (4 * n) z := by
  have := q_sized n
  have := p_pos (4 * n)
  unfold Sized
  omega
theorem sized_word {x : Int} (h0 : 0 ≤ x) (h1 : x ≤ 4294967296) (n : Nat) : Sized (4 * n + 4) x := by
  have h2 := p_mono (m := 4) (n := 4 * n + 4) (by omega)
  have e : (1000 : Int) ^ 4 = 1000000000000 := by decide
  unfold Sized
  omega
theorem drop_val {a : List Int} {n : Nat} (hn : n < a.length) (x : Int) (hx : a.getD n 0 = x) : wv (a.drop n) = wv (a.drop (n + 1)) * 4294967296 + x := by
  have := wv_head (a := a.drop n) (by rw [List.length_drop]; omega)
  have e : (a.drop n).getD 0 0 = x := by rw [← hx]; simp [List.getD]
  rw [this, e, List.drop_drop]; omega
theorem drop_lt {a : List Int} (hd : Wd a) (n : Nat) : 0 ≤ wv (a.drop n) ∧ wv (a.drop n) < 4294967296 ^ a.length := by
  have h1 := wv_range (hd.drop n)
  have h2 := q_mono (m := (a.drop n).length) (n := a.length) (by rw [List.length_drop]; omega)
  omega
set_option maxHeartbeats 2000000 in
theorem num_words (v : Value) (a : List Int) (w : World) (hv : WList w v a) (la : a.length ≤ 1000000) :
    Calls Tryz.prog 56 #[v] w (MadeNum w (wv a)) := by
  have HV := Lib.hid hv
  obtain ⟨p, c, rfl⟩ := hv.shape
  clear hv
  have HR0 := Lib.hid (And.intro ((Kept.start w (.bool false) (.slice none 0 0) 89).call (below_one _ (.cells #[.bool false, .slice none 0 0] 89)))
    (And.intro (⟨_, _, by simp [go_sem], by simp [go_sem], isNum_zero⟩ : ∃ x y, ((w.alloc (.cells #[.bool false, .slice none 0 0] 89)).alloc (.cells #[.bool false, .slice none 0 0] 89)).cell? ⟨w.heap.size + 1, 0, none⟩ = some x ∧ ((w.alloc (.cells #[.bool false, .slice none 0 0] 89)).alloc (.cells #[.bool false, .slice none 0 0] 89)).cell? ⟨w.heap.size + 1, 1, none⟩ = some y ∧ IsNum ((w.alloc (.cells #[.bool false, .slice none 0 0] 89)).alloc (.cells #[.bool false, .slice none 0 0] 89)) (.agg #[x, y]) 0)
      (by have := Kept.start (w.alloc (.cells #[.bool false, .slice none 0 0] 89)) (.bool false) (.slice none 0 0) 89; simp only [World.size_alloc] at this; exact this.down (below_one w _))))
  go_enter Tryz.func56, Tryz.ntmps56
  go_wp2_with fail
  go_loopw [4] (fun i wr => ∃ (m : Nat) (z : Int), Hid (z = (m : Int) - 1) ∧ -1 ≤ z ∧ z ≤ 1000000 ∧ m ≤ a.length ∧ i = .int .i64 z ∧ Hid (Kept w w.heap.size 89 wr ∧ NumBox w (w.heap.size + 1) (wv (a.drop m)) wr)) (fun i _ => (intOf i + 1).toNat)
  case atStart => exact ⟨a.length, _, Lib.hid rfl, by omega, by omega, Nat.le_refl _, rfl, Lib.hid ⟨HR0.out.1, by rw [List.drop_length]; exact HR0.out.2.1, HR0.out.2.2⟩⟩
  case round =>
    obtain ⟨m, z, hz, hz1, hz2, hm, rfl, hS⟩ := hrel
    clear HR0
    by_cases h0 : 0 ≤ z
    · obtain ⟨n, rfl⟩ : ∃ n, m = n + 1 := ⟨m - 1, by have := hz.out; omega⟩
      have hzn : z = (n : Int) := by have := hz.out; omega
      clear hz
      subst hzn
      obtain ⟨nb, np, nl, nc, hx, hy, hnum⟩ := hS.out.2.cells
      obtain ⟨b1, o1, hp1, hb1, hc⟩ := HV.out.1.cell (i := n) hm
      subst hp1
      have hc := cell_later hS.out.1.1 hc
      have hi0 : (0 : Int) ≤ (n : Int) := by omega
      have hi1 : (n : Int) < (a.length : Int) := by omega
      have dx := HV.out.2.1.getD n
      have hdv := Lib.hid (fun (x : Int) (hx : a.getD n 0 = x) => drop_val hm x hx)
      have hr1 := drop_lt HV.out.2.1 n
      have hr2 := drop_lt HV.out.2.1 (n + 1)
      generalize a.getD n 0 = x at *
      have hdv2 := Lib.hid (hdv.out x rfl)
      clear hdv
      have e6 : IntKind.u64.wrap x = x := by rw [IntKind.wrap_u64]; omega
      have HRg := Lib.hid (And.intro hr1 hr2)
      generalize wv (a.drop (n + 1)) = H at *
      have HN := Lib.hid hnum
      have HM := Lib.hid (fun w1 q (hb : Below wr.heap.size wr w1) (hq : IsNum w1 q 4294967296) => num_mul _ q H 4294967296 (4 * a.length + 4) w1 (HN.out.below hb) hq ((sized_words HRg.out.2.1 HRg.out.2.2).mono (by omega)) (sized_word (by decide) (by decide) _) (by omega))
      have HA := Lib.hid (fun w1 q y (hq : IsNum w1 q (H * 4294967296)) (hy : IsNum w1 y x) => num_add q y (H * 4294967296) x (4 * a.length + 4) w1 hq hy ((sized_words (n := a.length) (by have := HRg.out.2.1; omega) (by have := hdv2.out; have := HRg.out.1.2; omega)).mono (by omega)) (sized_word dx.1 (by omega) _) (by omega))
      obtain ⟨x0, x1⟩ := dx
      clear hnum hr1 hr2 hb1
      go_wp2_with fail
      go_region_with (first
        | (go_at_call_of 105 (4294967296 : Int); refine (nat_any 4294967296 _ (by decide) (by decide)).mono ?_; rintro e w1 ⟨q, rfl, hq, hb1⟩; replace hb1 := below_drew' hb1; have hx1 := cell_later hb1 hx; have hy1 := cell_later hb1 hy; have hc1 := cell_later hb1 hc)
        | (go_at_call 44; refine (HM.out _ _ hb1 hq).mono ?_; rintro e w2 ⟨mm, rfl, hmm, hb2⟩; have hc2 := cell_later hb2 hc1)
        | (go_at_call 105; refine (nat_any x _ x0 (by omega)).mono ?_; rintro e w3 ⟨y, rfl, hyy, hb3⟩)
        | (go_at_call 55; refine (HA.out _ _ _ (hmm.below hb3) hyy).mono ?_; rintro e w4 ⟨r, rfl, hr, hb4⟩; have hb14 := hb1.trans ((hb2.trans ((hb3.trans (hb4.mono hb3.size)).mono hb2.size)).mono hb1.size); have hk4 := hS.out.2.2.call hb14; have hR4 := hS.out.1.call hb14; obtain ⟨rn, rp, rl, rc, rfl⟩ := hr.shape; obtain ⟨⟨x2, hx2⟩, ⟨y2, hy2⟩, hf1, hf2⟩ := hk4.cells))
      all_goals
        have hB := Lib.hid (box_store hk4 hr)
        have hR5 := Lib.hid (hR4.far (N := w.heap.size + 1) (by omega) (by omega) (.bool rn) (.slice rp rl rc))
        rw [← hdv2.out] at hB
        clear hk4 hR4 hr hb14 hb1 hb2 hb3 hb4 hq hmm hyy hx1 hy1 hc1 hc2 hx2 hy2 hf1 hf2 hx hy hc HM HA HN hS HRg
        go_wp2_with fail
        go_roundw
        case rel => exact ⟨n, _, Lib.hid rfl, by omega, by omega, by omega, by go_num, Lib.hid ⟨hR5.out, hB.out⟩⟩
        case measure => simp [intOf]
    · obtain rfl : m = 0 := by have := hz.out; omega
      obtain ⟨nb, np, nl, nc, hx, hy, hnum⟩ := hS.out.2.cells
      rw [List.drop_zero] at hnum
      have hk := hS.out.1
      obtain ⟨⟨x1, hx1⟩, ⟨y1, hy1⟩, hf1, hf2⟩ := hk.cells
      have hN := Lib.hid (hk.num hnum)
      have hE := Lib.hid ((hk.store (.bool nb) (.slice np nl nc)).1)
      clear hS hnum hk
      go_wp2_with fail
      exact bodyPost_ret (v := .agg #[.bool nb, .slice np nl nc]) (by simp [results, Tryz.results56, go_sem, hx1, hy1]) rfl ⟨_, rfl, hN.out, hE.out⟩
end Go.Proofs.YtigikgphipebiaaGreatDoor
/- The reference of layer 2: is a list the trim one of a number; how many bits; powers of two. -/
namespace Go.Proofs.YtigikgphipebiaaGreatDoor
set_option maxRecDepth 100000
open Go.RowKit
set_option linter.unusedVariables false
set_option maxHeartbeats 1000000 in
theorem two_num (n : Int) (N : Nat) (hn : Hid (n = (N : Int))) (w : World) (hN : N ≤ 1000000) : Calls Tryz.prog 126 #[.int .i64 n] w (MadeNum w (2 ^ N)) := by
  have hk0 := Lib.hid (Kept.start w (.bool false) (.slice none 0 0) 89)
  go_enter Tryz.func126, Tryz.ntmps126
  go_wp2_with fail
  refine (nat_any 2 _ (by decide) (by decide)).mono ?_; rintro e w1 ⟨q, rfl, hq, hb1⟩
  have HP := Lib.hid (num_power 8 N q 2 n N w1 (Nat.le_refl _) hn (by omega) (by omega) hq (sized8 (by decide) (by decide)))
  have HK := Lib.hid (hk0.out.call hb1)
  clear hk0 hb1 hq
  go_wp2_with fail
  refine (HP.out).mono ?_; rintro e w2 ⟨r, rfl, hr, hb2⟩
  have hk := HK.out.call hb2
  obtain ⟨rn, rp, rl, rc, rfl⟩ := hr.shape
  obtain ⟨⟨x1, hx1⟩, ⟨y1, hy1⟩, hf1, hf2⟩ := hk.cells
  have hN2 := hk.num hr
  have hE := (hk.store (.bool rn) (.slice rp rl rc)).1
  clear hk hr hb2 HK HP
  go_wp2_with fail
  exact bodyPost_ret (v := .agg #[.bool rn, .slice rp rl rc]) (by simp [results, Tryz.results126, go_sem, hx1, hy1]) rfl ⟨_, rfl, hN2, hE⟩
end Go.Proofs.YtigikgphipebiaaGreatDoor
/- The examples of the chapter nat: the helper that every statement of layer 2 asks at its end answers true. -/
namespace Go.Proofs.YtigikgphipebiaaGreatDoor
set_option maxRecDepth 100000
open Go.RowKit
set_option linter.unusedVariables false
theorem tidy_tail {x : Int} {t : List Int} (h : Tidy (x :: t)) : Tidy t := by
  by_cases e : t = []
  · exact .inl e
  · refine .inr ?_
    have h1 := h.resolve_left (by simp)
    have hl : 0 < t.length := List.length_pos_iff.2 e
    have e2 : (x :: t).getD ((x :: t).length - 1) 0 = t.getD (t.length - 1) 0 := by
      obtain ⟨n, hn⟩ : ∃ n, t.length = n + 1 := ⟨t.length - 1, by omega⟩
      simp [List.getD, hn]
    rw [e2] at h1; exact h1
theorem wv_cons (x : Int) (t : List Int) : wv (x :: t) = x + 4294967296 * wv t := by
  have := wv_head (a := x :: t) (by simp)
  simpa using this
theorem tidy_unique : ∀ {a b : List Int}, Wd a → Wd b → Tidy a → Tidy b → wv a = wv b → a = b
  | [], b, _, hb, _, tb, h => by
    have := (tb.wzero hb).1 (by rw [← h]; rfl)
    exact this.symm
  | x :: t, [], ha, _, ta, _, h => (ta.wzero ha).1 (by rw [h]; rfl)
  | x :: t, y :: s, ha, hb, ta, tb, h => by
    rw [wv_cons, wv_cons] at h
    have hx := ha x (by simp)
    have hy := hb y (by simp)
    have e : x = y := by omega
    have e2 : wv t = wv s := by omega
    rw [e, tidy_unique (fun z hz => ha z (List.mem_cons_of_mem _ hz)) (fun z hz => hb z (List.mem_cons_of_mem _ hz)) (tidy_tail ta) (tidy_tail tb) e2]
theorem IsNat.list {w : World} {v : Value} {z : Int} {l : List Int} (h : IsNat w v z) (hd : Wd l) (ht : Tidy l) (hz : wv l = z) : WList w v l := by
  obtain ⟨a, h1, h2, h3⟩ := h
  have := tidy_unique h1.2.1 hd h2 ht (by rw [h3, hz])
  rw [← this]; exact h1
theorem halved_unique {z : Int} {m n : Nat} (h : Halved z m) (k : Halved z n) : m = n := by
  have key : ∀ (m n a b : Nat), m < n → (2 : Int) ^ m * (2 * a + 1) = 2 ^ n * (2 * b + 1) → False := fun m n a b hmn e => by
    obtain ⟨d, rfl⟩ : ∃ d, n = m + d + 1 := ⟨n - m - 1, by omega⟩
    rw [show m + d + 1 = m + (d + 1) from rfl, Int.pow_add, Int.mul_assoc] at e
    have hp : (2 : Int) ^ m ≠ 0 := by have : (0 : Int) < 2 ^ m := Int.pow_pos (by decide); omega
    have e2 := Int.eq_of_mul_eq_mul_left hp e
    rw [Int.pow_succ, Int.mul_comm (2 ^ d) 2, Int.mul_assoc] at e2
    omega
  have pos : ∀ (n a : Nat), (2 : Int) ^ n * (2 * a + 1) ≠ 0 := fun n a e => by
    have : (0 : Int) < 2 ^ n * (2 * a + 1) := Int.mul_pos (Int.pow_pos (by decide)) (by omega)
    omega
  rcases h with ⟨h1, h2⟩ | ⟨a, h1⟩
  · rcases k with ⟨k1, k2⟩ | ⟨b, k1⟩
    · omega
    · exact absurd (k1.symm.trans h1) (pos n b)
  · rcases k with ⟨k1, k2⟩ | ⟨b, k1⟩
    · exact absurd (h1.symm.trans k1) (pos m a)
    · rcases Nat.lt_trichotomy m n with q | q | q
      · exact (key m n a b q (h1.symm.trans k1)).elim
      · exact q
      · exact (key n m b a q (k1.symm.trans h1)).elim
end Go.Proofs.YtigikgphipebiaaGreatDoor
/- The table of math/bits: what the rows' condition gives, and that a world meets it. -/
namespace Go.Proofs.YtigikgphipebiaaGreatDoor
set_option maxRecDepth 100000
open Go.ChangeShapes Go.WideShapes Go.ChangeAt Go.RowKit
set_option linter.unusedVariables false
theorem own2 : ownKnob Tryz.prog.godebug = none := by kernel_rfl
theorem laidOut2 : laidOutB Tryz.prog = true := by kernel_rfl
theorem gTab : Tryz.prog.globalNamed "math/bits.deBruijn32tab" = some 1 := by kernel_rfl
theorem tTab : (Tryz.prog.globals[1]?).map (·.type) = some 285 := by kernel_rfl
def tabInts : List Int := [0, 1, 28, 2, 29, 14, 24, 3, 30, 22, 20, 15, 25, 17, 4, 8, 31, 27, 13, 23, 21, 19, 16, 7, 26, 12, 18, 6, 11, 5, 10, 9]
def Given (k : IntKind) (w : World) (v : Value) (zs : List Int) : Prop := Ints k w v zs ∧ ∀ n ∈ zs, (Lit.int k n).wf = true
theorem Given.wlist {w : World} {v : Value} {zs : List Int} (h : Given .u32 w v zs) (hl : zs.length ≤ 1099511627776) : WList w v zs :=
  ⟨h.1, fun x hx => by have := h.2 x hx; simp [Lit.wf, IntKind.min, IntKind.max, IntKind.signed, IntKind.bits] at this; omega, hl⟩
abbrev Four' (R : Nat) (a b c d : Value) (w' : World) : Prop := w'.cell? ⟨R, 0, none⟩ = some a ∧ w'.cell? ⟨R, 1, none⟩ = some b ∧ w'.cell? ⟨R + 1, 0, none⟩ = some c ∧ w'.cell? ⟨R + 1, 1, none⟩ = some d
theorem Four'.call {R : Nat} {a b c d : Value} {w1 w2 : World} (h : Four' R a b c d w1) (hb : Below w1.heap.size w1 w2) : Four' R a b c d w2 := ⟨cell_later hb h.1, cell_later hb h.2.1, cell_later hb h.2.2.1, cell_later hb h.2.2.2⟩
end Go.Proofs.YtigikgphipebiaaGreatDoor
/- Two variables of which one is made by a drawn statement. -/
namespace Go.Proofs.YtigikgphipebiaaGreatDoor
set_option maxRecDepth 100000
open Go.RowKit
set_option linter.unusedVariables false
theorem from_drew {W w2 : World} (hb : Below W.drew.heap.size W.drew w2) : Below W.heap.size W w2 := (Below.refl _ _).drew.trans hb
theorem set_cells {w w1 : World} {N : Nat} {T : TypeId} (h : Kept w N T w1) (u v : Value) :
    ((w1.setCell ⟨N, 0, none⟩ u).setCell ⟨N, 1, none⟩ v).cell? ⟨N, 0, none⟩ = some u ∧ ((w1.setCell ⟨N, 0, none⟩ u).setCell ⟨N, 1, none⟩ v).cell? ⟨N, 1, none⟩ = some v := by
  obtain ⟨h1, h2, x, y, h3⟩ := h
  have h4 := set_two (u := u) (v := v) h3
  exact ⟨by simp [World.cell?, h4], by simp [World.cell?, h4]⟩
abbrev SixAt (X M P : Nat) (a b c d e f : Value) (w : World) : Prop :=
  (w.cell? ⟨X, 0, none⟩ = some a ∧ w.cell? ⟨X, 1, none⟩ = some b) ∧ (w.cell? ⟨M, 0, none⟩ = some c ∧ w.cell? ⟨M, 1, none⟩ = some d) ∧ (w.cell? ⟨P, 0, none⟩ = some e ∧ w.cell? ⟨P, 1, none⟩ = some f)
theorem SixAt.call {X M P : Nat} {a b c d e f : Value} {w w' : World} (h : SixAt X M P a b c d e f w) (hb : Below w.heap.size w w') : SixAt X M P a b c d e f w' := by
  obtain ⟨⟨h1, h2⟩, ⟨h3, h4⟩, h5, h6⟩ := h
  exact ⟨⟨cell_later hb h1, cell_later hb h2⟩, ⟨cell_later hb h3, cell_later hb h4⟩, cell_later hb h5, cell_later hb h6⟩
end Go.Proofs.YtigikgphipebiaaGreatDoor
/- What Bits of package bushelref02 answers. -/
namespace Go.Proofs.YtigikgphipebiaaGreatDoor
set_option maxRecDepth 100000
open Go.RowKit
set_option linter.unusedVariables false
def BitsRel (w : World) (X P : Nat) (a b : Value) (z : Int) (n : Nat) (W : World) : Prop :=
  (∃ u t, (W.cell? ⟨P, 0, none⟩ = some u ∧ W.cell? ⟨P, 1, none⟩ = some t) ∧ IsNum W (.agg #[u, t]) (2 ^ n)) ∧ (W.cell? ⟨X, 0, none⟩ = some a ∧ W.cell? ⟨X, 1, none⟩ = some b) ∧ Kept w P 89 W ∧ IsNum W (.agg #[a, b]) z
theorem BitsRel.next {w W W1 W2 : World} {X P : Nat} {a b u t : Value} {z : Int} {n : Nat} (h : BitsRel w X P a b z n W) (hXP : X ≠ P) (h1 : Below W.heap.size W W1) (h2 : Below W1.heap.size W1 W2) (hr : IsNum W2 (.agg #[u, t]) (2 ^ (n + 1))) :
    BitsRel w X P a b z (n + 1) ((W2.setCell ⟨P, 0, none⟩ u).setCell ⟨P, 1, none⟩ t) := by
  obtain ⟨-, ⟨x1, x2⟩, hk, hz⟩ := h
  have hk2 := (hk.call h1).call h2
  have y1 := cell_later h2 (cell_later h1 x1)
  have y2 := cell_later h2 (cell_later h1 x2)
  obtain ⟨k1, k2, p, q, k3⟩ := id hk2
  obtain ⟨cur, k4⟩ := heap_setCell_cells (p := ⟨P, 0, none⟩) (u := u) k3
  refine ⟨⟨u, t, set_cells hk2 u t, hk2.num hr⟩, ⟨?_, ?_⟩, hk2.store u t, (((hz.below h1).below h2).set u k3 (by decide)).set t k4 (by decide)⟩
  · rw [World.cell?_setCell_far _ _ _ _ (by simp; omega), World.cell?_setCell_far _ _ _ _ (by simp; omega)]; exact y1
  · rw [World.cell?_setCell_far _ _ _ _ (by simp; omega), World.cell?_setCell_far _ _ _ _ (by simp; omega)]; exact y2
end Go.Proofs.YtigikgphipebiaaGreatDoor
