/- bushelref04: what just is a root. -/
import Derived.Test.YtjfcnpanodkmnaaDoorRoob
import Derived.Test.YtjfcnpanodkmnaaDoorMeet
import Derived.Deep.RegionWith
import Derived.Deep.RegionHeld3
import Derived.Deep.DeepCutAuto
import Derived.Deep.CutBlock
import Derived.Outline
namespace Go.Proofs.YtjfcnpanodkmnaaDoor
set_option maxRecDepth 100000
open Go.RowKit
set_option linter.unusedVariables false
theorem below_alloc' {w W : World} {o : Obj} (h : Below w.heap.size w W) : Below w.heap.size w (W.alloc o) := h.trans ((below_one W o).mono h.size)
theorem below_then {w W W' : World} (h : Below w.heap.size w W) (hb : Below W.heap.size W W') : Below w.heap.size w W' := h.trans (hb.mono h.size)
theorem kept_new {w W : World} {a b : Value} (h : Below w.heap.size w W) : Kept w W.heap.size 30 (W.alloc (.cells #[a, b] 30)) :=
  ⟨h.trans ((below_one W _).mono h.size), h.size, a, b, heap_alloc_new W _⟩
/-- Two variables P and M, and what is read. -/
def PM (w : World) (P M : Nat) (a b c d : Value) (x y : Int) (wr : World) : Prop :=
  ((wr.cell? ⟨P, 0, none⟩ = some a ∧ wr.cell? ⟨P, 1, none⟩ = some b) ∧ (wr.cell? ⟨M, 0, none⟩ = some c ∧ wr.cell? ⟨M, 1, none⟩ = some d)) ∧ (Kept w P 30 wr ∧ Kept w M 30 wr ∧ P ≠ M) ∧ IsNum wr (.agg #[a, b]) x ∧ IsNum wr (.agg #[c, d]) y
theorem PM.call {w w1 w2 : World} {P M : Nat} {a b c d : Value} {x y : Int} (h : PM w P M a b c d x y w1) (hb : Below w1.heap.size w1 w2) : PM w P M a b c d x y w2 := by
  obtain ⟨⟨⟨h1, h2⟩, h3, h4⟩, ⟨h5, h6, h7⟩, h8, h9⟩ := h
  exact ⟨⟨⟨cell_later hb h1, cell_later hb h2⟩, cell_later hb h3, cell_later hb h4⟩, ⟨h5.call hb, h6.call hb, h7⟩, h8.below hb, h9.below hb⟩
theorem PM.storeP {w w1 : World} {P M : Nat} {a b c d u s : Value} {x y z : Int} (h : PM w P M a b c d x y w1) (hz : IsNum w1 (.agg #[u, s]) z) :
    PM w P M u s c d z y ((w1.setCell ⟨P, 0, none⟩ u).setCell ⟨P, 1, none⟩ s) := by
  obtain ⟨⟨⟨h1, h2⟩, h3, h4⟩, ⟨h5, h6, h7⟩, h8, h9⟩ := h
  exact ⟨⟨set_cells h5 u s, far_one h5 u s (fun e => h7 e.symm) _ _ h3, far_one h5 u s (fun e => h7 e.symm) _ _ h4⟩, ⟨h5.store u s, h6.far (fun e => h7 e.symm) h5.2.1 u s, h7⟩, h5.num hz, num_far h5 u s h9⟩
theorem PM.storeM {w w1 : World} {P M : Nat} {a b c d u s : Value} {x y z : Int} (h : PM w P M a b c d x y w1) (hz : IsNum w1 (.agg #[u, s]) z) :
    PM w P M a b u s x z ((w1.setCell ⟨M, 0, none⟩ u).setCell ⟨M, 1, none⟩ s) := by
  obtain ⟨⟨⟨h1, h2⟩, h3, h4⟩, ⟨h5, h6, h7⟩, h8, h9⟩ := h
  exact ⟨⟨⟨far_one h6 u s h7 _ _ h1, far_one h6 u s h7 _ _ h2⟩, set_cells h6 u s⟩, ⟨h5.far h7 h6.2.1 u s, h6.store u s, h7⟩, num_far h6 u s h8, h6.num hz⟩
/-- Three variables, read, and what they hold. -/
def Tri (w : World) (X : Nat) (a b c d e f : Value) (wr : World) : Prop :=
  SixAt X (X + 1) (X + 2) a b c d e f wr ∧ Kept w (X + 1) 30 wr
theorem Tri.call {w w1 w2 : World} {X : Nat} {a b c d e f : Value} (h : Tri w X a b c d e f w1) (hb : Below w1.heap.size w1 w2) : Tri w X a b c d e f w2 := ⟨SixAt.call h.1 hb, h.2.call hb⟩
theorem Tri.start (w : World) (a b c d e f : Value) : Tri w w.heap.size a b c d e f (((w.alloc (.cells #[a, b] 30)).alloc (.cells #[c, d] 30)).alloc (.cells #[e, f] 30)) := by
  have h2 := below_two (w.alloc (.cells #[a, b] 30)) (.cells #[c, d] 30) (.cells #[e, f] 30)
  have h1 := below_one ((w.alloc (.cells #[a, b] 30)).alloc (.cells #[c, d] 30)) (.cells #[e, f] 30)
  refine ⟨⟨⟨cell_later h2 (by simp [go_sem]), cell_later h2 (by simp [go_sem])⟩, ⟨cell_later h1 (by simp [go_sem]), cell_later h1 (by simp [go_sem])⟩, by simp [go_sem], by simp [go_sem]⟩, ?_⟩
  have h3 := (Kept.start (w.alloc (.cells #[a, b] 30)) c d 30).down (below_one w _)
  simp only [World.size_alloc] at h3
  exact h3.call h1
theorem below_three (w : World) (o p q : Obj) : Below w.heap.size w (((w.alloc o).alloc p).alloc q) := (below_two w o p).trans ((below_one _ q).mono (by simp; omega))
theorem tri_new {w W : World} {X : Nat} {a b c d e f u t : Value} {x z : Int} (h : Tri w X a b c d e f W) (hx : IsNum W (.agg #[c, d]) x) (hz : IsNum W (.agg #[u, t]) z) :
    PM w (X + 1) W.heap.size c d u t x z (W.alloc (.cells #[u, t] 30)) := by
  have hb := below_one W (.cells #[u, t] 30)
  obtain ⟨⟨-, ⟨h1, h2⟩, -⟩, h3⟩ := h
  refine ⟨⟨⟨cell_later hb h1, cell_later hb h2⟩, by simp [go_sem], by simp [go_sem]⟩, ⟨h3.call hb, kept_new h3.1, ?_⟩, hx.below hb, hz.below hb⟩
  obtain ⟨-, -, x', y', h4⟩ := h3
  have := (Array.getElem?_eq_some_iff.1 h4).1
  omega
theorem tri_set {w W : World} {X M : Nat} {a b c d e f u t : Value} {x z : Int} (h : Tri w X a b c d e f W) (k : Kept w M 30 W) (hM : X + 1 ≠ M) (hx : IsNum W (.agg #[c, d]) x) (hz : IsNum W (.agg #[u, t]) z) :
    PM w (X + 1) M c d u t x z ((W.setCell ⟨M, 0, none⟩ u).setCell ⟨M, 1, none⟩ t) := by
  obtain ⟨⟨-, ⟨h1, h2⟩, -⟩, h3⟩ := h
  exact ⟨⟨⟨far_one k u t hM _ _ h1, far_one k u t hM _ _ h2⟩, set_cells k u t⟩, ⟨h3.far hM k.2.1 u t, k.store u t, hM⟩, num_far k u t hx, k.num hz⟩
theorem tri_far {W w2 : World} {X M : Nat} (hX : X + 2 < W.heap.size) (k : Kept W M 30 w2) : X + 1 ≠ M := by
  obtain ⟨-, h, -⟩ := k; omega
theorem cmp_le_zero (a b : Nat) : decide (cmpI (a : Int) (b : Int) ≤ 0) = decide (a ≤ b) := by
  rw [decide_eq_decide]; have := cmpI_le (x := (a : Int)) (y := (b : Int)); omega
theorem cmp_eq_zero (a b : Nat) : (cmpI (a : Int) (b : Int) == 0) = decide (a = b) := by
  rw [Bool.eq_iff_iff]; simp
  have h1 := cmpI_le (x := (a : Int)) (y := (b : Int))
  have h2 := cmpI_ge (x := (a : Int)) (y := (b : Int))
  omega
theorem two_cast (N : Nat) : ((2 : Int) ^ N) = ((2 ^ N : Nat) : Int) := by simp
theorem sized_nat {z N : Nat} (h : z ≤ 2 ^ N) (hN : N ≤ 15000) : Sized 20000 (z : Int) :=
  sized_less (by omega) (by rw [two_cast]; exact Int.ofNat_le.2 h) hN
theorem le_two_mul {a b m n : Nat} (h : a ≤ 2 ^ m) (k : b ≤ 2 ^ n) : a * b ≤ 2 ^ (m + n) := by rw [Nat.pow_add]; exact Nat.mul_le_mul h k
theorem SixAt.drew {X M P : Nat} {a b c d e f : Value} {w : World} (h : SixAt X M P a b c d e f w) : SixAt X M P a b c d e f w.drew := h.call (Below.refl _ _).drew
theorem SixAt.alloc {X M P : Nat} {a b c d e f : Value} {w : World} {o : Obj} (h : SixAt X M P a b c d e f w) : SixAt X M P a b c d e f (w.alloc o) := h.call (below_one w o)
theorem SixAt.set {X M P N : Nat} {a b c d e f u v : Value} {w : World} (h : SixAt X M P a b c d e f w) (h1 : X ≠ N) (h2 : M ≠ N) (h3 : P ≠ N) : SixAt X M P a b c d e f ((w.setCell ⟨N, 0, none⟩ u).setCell ⟨N, 1, none⟩ v) := by
  obtain ⟨⟨c1, c2⟩, ⟨c3, c4⟩, c5, c6⟩ := h
  refine ⟨⟨?_, ?_⟩, ⟨?_, ?_⟩, ?_, ?_⟩
  all_goals rw [World.cell?_setCell_far _ _ _ _ (by simp; omega), World.cell?_setCell_far _ _ _ _ (by simp; omega)]; assumption
theorem kept_lt {w W : World} {M : Nat} (h : Kept w M 30 W) : M < W.heap.size ∧ M ≠ W.heap.size ∧ W.heap.size ≠ M := by
  obtain ⟨h1, h2, x, y, h3⟩ := h
  have := (Array.getElem?_eq_some_iff.1 h3).1
  exact ⟨this, Nat.ne_of_lt this, (Nat.ne_of_lt this).symm⟩
set_option maxHeartbeats 8000000 in
theorem fits_any (vm vp vq : Value) (m p q : Nat) (u : Int) (w : World) (hm : IsNum w vm m) (hp : IsNum w vp p) (hq : IsNum w vq q) (lm : m ≤ 2 ^ 70) (lp : p ≤ 2 ^ 3100) (lq : q ≤ 2 ^ 3100) (u0 : -1100 ≤ u) (u1 : u ≤ 1700) :
    Calls Tryd.prog 32 #[vm, .int .i64 u, vp, vq] w fun r w' => r = .returned (.bool (fitsB m u p q)) ∧ Below w.heap.size w w' := by
  obtain ⟨mb, mp, ml, mc, rfl⟩ := hm.shape
  obtain ⟨pb, pp, pl, pc, rfl⟩ := hp.shape
  obtain ⟨qb, qp, ql, qc, rfl⟩ := hq.shape
  have hB := below_three w (.cells #[.bool mb, .slice mp ml mc] 30) (.cells #[.bool pb, .slice pp pl pc] 30) (.cells #[.bool qb, .slice qp ql qc] 30)
  have HMn := Lib.hid (hm.below hB)
  have HPn := Lib.hid (hp.below hB)
  have HQn := Lib.hid (hq.below hB)
  have HB := Lib.hid hB
  have HTri := Lib.hid (Tri.start w (.bool mb) (.slice mp ml mc) (.bool pb) (.slice pp pl pc) (.bool qb) (.slice qp ql qc))
  have l1 := le_two_mul lm lm
  have l2 := le_two_mul l1 lq
  have HM1 := Lib.hid (fun w1 u v (hu : IsNum w1 u (m : Int)) (hv : IsNum w1 v (m : Int)) => num_mul u v (m : Int) (m : Int) 20000 w1 hu hv (sized_nat lm (by decide)) (sized_nat lm (by decide)) (by decide))
  rw [← Int.natCast_mul] at HM1
  have HM2 := Lib.hid (fun w1 u v (hu : IsNum w1 u ((m * m : Nat) : Int)) (hv : IsNum w1 v (q : Int)) => num_mul u v _ _ 20000 w1 hu hv (sized_nat l1 (by decide)) (sized_nat lq (by decide)) (by decide))
  rw [← Int.natCast_mul] at HM2
  have HS := Lib.hid (And.intro l2 lp)
  have HF := Lib.hid (show fitsB m u p q = if 0 ≤ u then decide (m * m * q * 2 ^ (2 * u).toNat ≤ p) else decide (m * m * q ≤ p * 2 ^ (-2 * u).toNat) from rfl)
  generalize fitsB m u p q = R at *
  generalize m * m * q = A at *
  generalize m * m = A1 at *
  have hlt : w.heap.size + 2 < (((w.alloc (.cells #[.bool mb, .slice mp ml mc] 30)).alloc (.cells #[.bool pb, .slice pp pl pc] 30)).alloc (.cells #[.bool qb, .slice qp ql qc] 30)).heap.size := by simp
  clear hm hp hq lm lp lq l1 l2 hB
  go_enter Tryd.func32, Tryd.ntmps32
  go_upto_region 2 with fail
  generalize (((w.alloc (.cells #[.bool mb, .slice mp ml mc] 30)).alloc (.cells #[.bool pb, .slice pp pl pc] 30)).alloc (.cells #[.bool qb, .slice qp ql qc] 30)) = W at *
  obtain ⟨X, hX⟩ : ∃ X, w.heap.size = X := ⟨_, rfl⟩
  rw [hX] at HTri hlt
  have HX := Lib.hid hX
  rw [hX]
  clear hX
  go_cut [9] (fun s9 wx => ∃ M : Nat, s9 = .pointer (some ⟨M, 0, none⟩) ∧ ∃ g h, Hid (PM w (X + 1) M (.bool pb) (.slice pp pl pc) g h p A wx))
  case first =>
    have hk : SixAt X (X + 1) (X + 2) (.bool mb) (.slice mp ml mc) (.bool pb) (.slice pp pl pc) (.bool qb) (.slice qp ql qc) W := HTri.out.1
    have hBw : Below W.heap.size W W := Below.refl _ _
    go_region_held3 (fun w' => (w'.cell? ⟨X, 0, none⟩ = some (.bool mb) ∧ w'.cell? ⟨X, 1, none⟩ = some (.slice mp ml mc)) ∧ (w'.cell? ⟨X + 1, 0, none⟩ = some (.bool pb) ∧ w'.cell? ⟨X + 1, 1, none⟩ = some (.slice pp pl pc)) ∧ (w'.cell? ⟨X + 2, 0, none⟩ = some (.bool qb) ∧ w'.cell? ⟨X + 2, 1, none⟩ = some (.slice qp ql qc)))
      (first | (with_reducible assumption) | (repeat' (first | (with_reducible assumption) | (with_reducible apply SixAt.drew) | (with_reducible apply SixAt.set) | (with_reducible apply SixAt.alloc) | omega)))
      (first
        | (go_at_call_of 16 mp; refine (HM1.out _ _ _ ?_ ?_).mono ?_; (first | exact HMn.out.below (Below.refl _ _).drew | exact HMn.out.below (below_alloc' (Below.refl _ _)).drew); (first | exact HMn.out.below (Below.refl _ _).drew | exact HMn.out.below (below_alloc' (Below.refl _ _)).drew); rintro r w1 ⟨t, rfl, ht, hb1⟩; replace hb1 := from_drew hb1; have hk := (by first | exact SixAt.call hk hb1 | exact SixAt.call (SixAt.alloc hk) hb1); (first
            | (have kA : Kept W W.heap.size 30 w1 := (kept_new (Below.refl _ _)).call hb1; obtain ⟨l1, l2, l3⟩ := kept_lt kA)
            | skip); have hBw : Below W.heap.size W w1 := (by first | exact hb1 | exact below_then (below_alloc' (Below.refl _ _)) hb1); have hz1 : W.heap.size ≤ w1.heap.size := hBw.size)
        | (go_at_call_of 16 qp; refine (HM2.out _ _ _ ?_ ?_).mono ?_; (first | exact ht | exact ht.below (below_one _ _)); (first | exact HQn.out.below hBw | exact HQn.out.below (below_alloc' hBw)); rintro r w2 ⟨s, rfl, hs, hb2⟩; obtain ⟨sb, sp, sl, sc, rfl⟩ := hs.shape; have hk := (by first | exact SixAt.call hk hb2 | exact SixAt.call (SixAt.alloc hk) hb2); (first
            | (have kC : Kept W w1.heap.size 30 w2 := (kept_new hBw).call hb2; obtain ⟨⟨x1, hx1⟩, ⟨y1, hy1⟩, hf1, hf2⟩ := kC.cells; obtain ⟨g1C, g2C, g3C⟩ := kept_lt kC)
            | (replace kA := kA.call hb2; obtain ⟨⟨x1, hx1⟩, ⟨y1, hy1⟩, hf1, hf2⟩ := kA.cells; obtain ⟨g1A, g2A, g3A⟩ := kept_lt kA)
            | skip); have hBw : Below W.heap.size W w2 := (by first | exact below_then hBw hb2 | exact below_then (below_alloc' hBw) hb2); have hz2 : W.heap.size ≤ w2.heap.size := hBw.size))
    all_goals
      clear HM1 HM2
      have hTri := HTri.out.call hBw
      have hPn := HPn.out.below hBw
      go_wp2_with fail
      go_meet
      first
        | with_reducible exact ⟨_, rfl, _, _, Lib.hid (tri_new hTri hPn hs)⟩
        | with_reducible exact ⟨_, rfl, _, _, Lib.hid (tri_set hTri (kA.down HB.out) (tri_far hlt kA) hPn hs)⟩
        | with_reducible exact ⟨_, rfl, _, _, Lib.hid (tri_set hTri (kC.down HB.out) (tri_far hlt kC) hPn hs)⟩
  case rest =>
    obtain ⟨M, rfl, g, h, hpm⟩ := hcut
    clear HTri HMn HQn HM1 HM2 HPn HB
    obtain ⟨gb, gp, gl, gc, e⟩ := hpm.out.2.2.2.shape
    simp only [Value.agg.injEq, Array.mk.injEq, List.cons.injEq, and_true] at e
    obtain ⟨rfl, rfl⟩ := e
    have hX := HX.out
    subst hX
    by_cases h0 : 0 ≤ u
    · obtain ⟨N, hN⟩ := Int.eq_ofNat_of_zero_le (a := 2 * u) (by omega)
      have HR := Lib.hid (show R = decide (A * 2 ^ N ≤ p) by rw [HF.out, if_pos h0, show (2 * u).toNat = N by omega])
      have HTw := Lib.hid (fun w1 => two_num (2 * u) N (Lib.hid hN) w1 (by omega))
      rw [two_cast N] at HTw
      have hN' : N ≤ 3400 := by omega
      have l3 := le_two_mul HS.out.1 (Nat.le_refl (2 ^ N))
      have HM := Lib.hid (fun w1 u v (hu : IsNum w1 u (A : Int)) (hv : IsNum w1 v ((2 ^ N : Nat) : Int)) => num_mul u v _ _ 20000 w1 hu hv (sized_nat HS.out.1 (by decide)) (sized_nat (Nat.le_refl (2 ^ N)) (by omega)) (by decide))
      rw [← Int.natCast_mul] at HM
      have HC := Lib.hid (fun w1 u v (hu : IsNum w1 u ((A * 2 ^ N : Nat) : Int)) (hv : IsNum w1 v (p : Int)) => num_cmp u v _ _ 20000 w1 hu hv (sized_nat l3 (by omega)) (sized_nat HS.out.2 (by decide)) (by decide))
      have hcm := cmp_le_zero (A * 2 ^ N) p
      have hwr : IntKind.i64.wrap (2 * u) = 2 * u := IntWalk.i64_in _ (by omega)
      have b1 : 0 ≤ 2 * u := by omega
      have b2 : 2 * u ≤ 3400 := by omega
      generalize A * 2 ^ N = A2 at *
      generalize 2 ^ N = N2 at *
      generalize hgg : cmpI (A2 : Int) (p : Int) = cm at *
      obtain ⟨⟨⟨f1, f2⟩, f3, f4⟩, -⟩ := hpm.out
      clear hgg hN hN' l3 HF HS
      go_wp2_with fail
      go_region_with (first
        | (go_at_call 33; refine (HTw.out _).mono ?_; rintro r1 w1 ⟨t, rfl, ht, hb1⟩; replace hb1 := below_drew' hb1; have hS1 := hpm.out.call hb1; obtain ⟨⟨⟨q1, q2⟩, q3, q4⟩, -⟩ := id hS1)
        | (go_at_call 16; refine (HM.out _ _ _ hS1.2.2.2 ht).mono ?_; rintro r2 w2 ⟨m0, rfl, hm, hb2⟩; have hS2 := hS1.call hb2; obtain ⟨rn, rp, rl, rc, rfl⟩ := hm.shape; obtain ⟨⟨x2, hx2⟩, ⟨y2, hy2⟩, hf1, hf2⟩ := hS2.2.1.2.1.cells))
      all_goals
        have hS5 := Lib.hid (hS2.storeM hm)
        clear hS1 hS2 hm ht hb1 hb2 q1 q2 q3 q4 f1 f2 f3 f4 hx2 hy2 hf1 hf2 HTw HM hpm hwr
        generalize (w2.setCell ⟨M, 0, none⟩ (.bool rn)).setCell ⟨M, 1, none⟩ (.slice rp rl rc) = W5 at *
        obtain ⟨⟨⟨f1, f2⟩, f3, f4⟩, ⟨hE, -⟩, n1, n2⟩ := id hS5.out
        have HC2 := Lib.hid (HC.out _ _ _ n2 n1)
        have HE := Lib.hid hE.1
        clear hS5 n1 n2 hE HC
        go_wp2_with fail
        refine (HC2.out).mono ?_; rintro r3 w6 ⟨rfl, hb6⟩
        go_wp2_with fail
        go_ret
        exact ⟨ret_bool (by rw [HR.out, ← hcm]), HE.out.trans (hb6.mono HE.out.size)⟩
    · obtain ⟨N, hN⟩ := Int.eq_ofNat_of_zero_le (a := -2 * u) (by omega)
      have HR := Lib.hid (show R = decide (A ≤ p * 2 ^ N) by rw [HF.out, if_neg h0, show (-2 * u).toNat = N by omega])
      have HTw := Lib.hid (fun w1 => two_num (-2 * u) N (Lib.hid hN) w1 (by omega))
      rw [two_cast N] at HTw
      have hN' : N ≤ 2200 := by omega
      have l3 := le_two_mul HS.out.2 (Nat.le_refl (2 ^ N))
      have HM := Lib.hid (fun w1 u v (hu : IsNum w1 u (p : Int)) (hv : IsNum w1 v ((2 ^ N : Nat) : Int)) => num_mul u v _ _ 20000 w1 hu hv (sized_nat HS.out.2 (by decide)) (sized_nat (Nat.le_refl (2 ^ N)) (by omega)) (by decide))
      rw [← Int.natCast_mul] at HM
      have HC := Lib.hid (fun w1 u v (hu : IsNum w1 u (A : Int)) (hv : IsNum w1 v ((p * 2 ^ N : Nat) : Int)) => num_cmp u v _ _ 20000 w1 hu hv (sized_nat HS.out.1 (by decide)) (sized_nat l3 (by omega)) (by decide))
      have hcm := cmp_le_zero A (p * 2 ^ N)
      have hwr : IntKind.i64.wrap (-2 * u) = -2 * u := IntWalk.i64_in _ (by omega)
      have b1 : 0 ≤ -2 * u := by omega
      have b2 : -2 * u ≤ 2200 := by omega
      generalize p * 2 ^ N = p2 at *
      generalize 2 ^ N = N2 at *
      generalize hgg : cmpI (A : Int) (p2 : Int) = cm at *
      obtain ⟨⟨⟨f1, f2⟩, f3, f4⟩, -⟩ := hpm.out
      clear hgg hN hN' l3 HF HS
      go_wp2_with fail
      go_region_with (first
        | (go_at_call 33; refine (HTw.out _).mono ?_; rintro r1 w1 ⟨t, rfl, ht, hb1⟩; replace hb1 := below_drew' hb1; have hS1 := hpm.out.call hb1; obtain ⟨⟨⟨q1, q2⟩, q3, q4⟩, -⟩ := id hS1)
        | (go_at_call 16; refine (HM.out _ _ _ hS1.2.2.1 ht).mono ?_; rintro r2 w2 ⟨m0, rfl, hm, hb2⟩; have hS2 := hS1.call hb2; obtain ⟨rn, rp, rl, rc, rfl⟩ := hm.shape; obtain ⟨⟨x2, hx2⟩, ⟨y2, hy2⟩, hf1, hf2⟩ := hS2.2.1.1.cells))
      all_goals
        have hS5 := Lib.hid (hS2.storeP hm)
        clear hS1 hS2 hm ht hb1 hb2 q1 q2 q3 q4 f1 f2 f3 f4 hx2 hy2 hf1 hf2 HTw HM hpm hwr
        generalize (w2.setCell ⟨w.heap.size + 1, 0, none⟩ (.bool rn)).setCell ⟨w.heap.size + 1, 1, none⟩ (.slice rp rl rc) = W5 at *
        obtain ⟨⟨⟨f1, f2⟩, f3, f4⟩, ⟨hE, -⟩, n1, n2⟩ := id hS5.out
        have HC2 := Lib.hid (HC.out _ _ _ n2 n1)
        have HE := Lib.hid hE.1
        clear hS5 n1 n2 hE HC
        go_wp2_with fail
        refine (HC2.out).mono ?_; rintro r3 w6 ⟨rfl, hb6⟩
        go_wp2_with fail
        go_ret
        exact ⟨ret_bool (by rw [HR.out, ← hcm]), HE.out.trans (hb6.mono HE.out.size)⟩
set_option maxRecDepth 100000
open Go.RowKit
set_option linter.unusedVariables false
set_option maxHeartbeats 8000000 in
theorem just_any (vm vp vq : Value) (m p q : Nat) (u : Int) (w : World) (hm : IsNum w vm m) (hp : IsNum w vp p) (hq : IsNum w vq q) (lm : m ≤ 2 ^ 70) (lp : p ≤ 2 ^ 3100) (lq : q ≤ 2 ^ 3100) (u0 : -1100 ≤ u) (u1 : u ≤ 1700) :
    Calls Tryd.prog 35 #[vm, .int .i64 u, vp, vq] w fun r w' => r = .returned (.bool (justB m u p q)) ∧ Below w.heap.size w w' := by
  obtain ⟨mb, mp, ml, mc, rfl⟩ := hm.shape
  obtain ⟨pb, pp, pl, pc, rfl⟩ := hp.shape
  obtain ⟨qb, qp, ql, qc, rfl⟩ := hq.shape
  have hB := below_three w (.cells #[.bool mb, .slice mp ml mc] 30) (.cells #[.bool pb, .slice pp pl pc] 30) (.cells #[.bool qb, .slice qp ql qc] 30)
  have HMn := Lib.hid (hm.below hB)
  have HPn := Lib.hid (hp.below hB)
  have HQn := Lib.hid (hq.below hB)
  have HB := Lib.hid hB
  have HTri := Lib.hid (Tri.start w (.bool mb) (.slice mp ml mc) (.bool pb) (.slice pp pl pc) (.bool qb) (.slice qp ql qc))
  have l1 := le_two_mul lm lm
  have l2 := le_two_mul l1 lq
  have HM1 := Lib.hid (fun w1 u v (hu : IsNum w1 u (m : Int)) (hv : IsNum w1 v (m : Int)) => num_mul u v (m : Int) (m : Int) 20000 w1 hu hv (sized_nat lm (by decide)) (sized_nat lm (by decide)) (by decide))
  rw [← Int.natCast_mul] at HM1
  have HM2 := Lib.hid (fun w1 u v (hu : IsNum w1 u ((m * m : Nat) : Int)) (hv : IsNum w1 v (q : Int)) => num_mul u v _ _ 20000 w1 hu hv (sized_nat l1 (by decide)) (sized_nat lq (by decide)) (by decide))
  rw [← Int.natCast_mul] at HM2
  have HS := Lib.hid (And.intro l2 lp)
  have HF := Lib.hid (show justB m u p q = if 0 ≤ u then decide (m * m * q * 2 ^ (2 * u).toNat = p) else decide (m * m * q = p * 2 ^ (-2 * u).toNat) from rfl)
  generalize justB m u p q = R at *
  generalize m * m * q = A at *
  generalize m * m = A1 at *
  have hlt : w.heap.size + 2 < (((w.alloc (.cells #[.bool mb, .slice mp ml mc] 30)).alloc (.cells #[.bool pb, .slice pp pl pc] 30)).alloc (.cells #[.bool qb, .slice qp ql qc] 30)).heap.size := by simp
  clear hm hp hq lm lp lq l1 l2 hB
  go_enter Tryd.func35, Tryd.ntmps35
  go_upto_region 2 with fail
  generalize (((w.alloc (.cells #[.bool mb, .slice mp ml mc] 30)).alloc (.cells #[.bool pb, .slice pp pl pc] 30)).alloc (.cells #[.bool qb, .slice qp ql qc] 30)) = W at *
  obtain ⟨X, hX⟩ : ∃ X, w.heap.size = X := ⟨_, rfl⟩
  rw [hX] at HTri hlt
  have HX := Lib.hid hX
  rw [hX]
  clear hX
  go_cut [9] (fun s9 wx => ∃ M : Nat, s9 = .pointer (some ⟨M, 0, none⟩) ∧ ∃ g h, Hid (PM w (X + 1) M (.bool pb) (.slice pp pl pc) g h p A wx))
  case first =>
    have hk : SixAt X (X + 1) (X + 2) (.bool mb) (.slice mp ml mc) (.bool pb) (.slice pp pl pc) (.bool qb) (.slice qp ql qc) W := HTri.out.1
    have hBw : Below W.heap.size W W := Below.refl _ _
    go_region_held3 (fun w' => (w'.cell? ⟨X, 0, none⟩ = some (.bool mb) ∧ w'.cell? ⟨X, 1, none⟩ = some (.slice mp ml mc)) ∧ (w'.cell? ⟨X + 1, 0, none⟩ = some (.bool pb) ∧ w'.cell? ⟨X + 1, 1, none⟩ = some (.slice pp pl pc)) ∧ (w'.cell? ⟨X + 2, 0, none⟩ = some (.bool qb) ∧ w'.cell? ⟨X + 2, 1, none⟩ = some (.slice qp ql qc)))
      (first | (with_reducible assumption) | (repeat' (first | (with_reducible assumption) | (with_reducible apply SixAt.drew) | (with_reducible apply SixAt.set) | (with_reducible apply SixAt.alloc) | omega)))
      (first
        | (go_at_call_of 16 mp; refine (HM1.out _ _ _ ?_ ?_).mono ?_; (first | exact HMn.out.below (Below.refl _ _).drew | exact HMn.out.below (below_alloc' (Below.refl _ _)).drew); (first | exact HMn.out.below (Below.refl _ _).drew | exact HMn.out.below (below_alloc' (Below.refl _ _)).drew); rintro r w1 ⟨t, rfl, ht, hb1⟩; replace hb1 := from_drew hb1; have hk := (by first | exact SixAt.call hk hb1 | exact SixAt.call (SixAt.alloc hk) hb1); (first
            | (have kA : Kept W W.heap.size 30 w1 := (kept_new (Below.refl _ _)).call hb1; obtain ⟨l1, l2, l3⟩ := kept_lt kA)
            | skip); have hBw : Below W.heap.size W w1 := (by first | exact hb1 | exact below_then (below_alloc' (Below.refl _ _)) hb1); have hz1 : W.heap.size ≤ w1.heap.size := hBw.size)
        | (go_at_call_of 16 qp; refine (HM2.out _ _ _ ?_ ?_).mono ?_; (first | exact ht | exact ht.below (below_one _ _)); (first | exact HQn.out.below hBw | exact HQn.out.below (below_alloc' hBw)); rintro r w2 ⟨s, rfl, hs, hb2⟩; obtain ⟨sb, sp, sl, sc, rfl⟩ := hs.shape; have hk := (by first | exact SixAt.call hk hb2 | exact SixAt.call (SixAt.alloc hk) hb2); (first
            | (have kC : Kept W w1.heap.size 30 w2 := (kept_new hBw).call hb2; obtain ⟨⟨x1, hx1⟩, ⟨y1, hy1⟩, hf1, hf2⟩ := kC.cells; obtain ⟨g1C, g2C, g3C⟩ := kept_lt kC)
            | (replace kA := kA.call hb2; obtain ⟨⟨x1, hx1⟩, ⟨y1, hy1⟩, hf1, hf2⟩ := kA.cells; obtain ⟨g1A, g2A, g3A⟩ := kept_lt kA)
            | skip); have hBw : Below W.heap.size W w2 := (by first | exact below_then hBw hb2 | exact below_then (below_alloc' hBw) hb2); have hz2 : W.heap.size ≤ w2.heap.size := hBw.size))
    all_goals
      clear HM1 HM2
      have hTri := HTri.out.call hBw
      have hPn := HPn.out.below hBw
      go_wp2_with fail
      go_meet
      first
        | with_reducible exact ⟨_, rfl, _, _, Lib.hid (tri_new hTri hPn hs)⟩
        | with_reducible exact ⟨_, rfl, _, _, Lib.hid (tri_set hTri (kA.down HB.out) (tri_far hlt kA) hPn hs)⟩
        | with_reducible exact ⟨_, rfl, _, _, Lib.hid (tri_set hTri (kC.down HB.out) (tri_far hlt kC) hPn hs)⟩
  case rest =>
    obtain ⟨M, rfl, g, h, hpm⟩ := hcut
    clear HTri HMn HQn HM1 HM2 HPn HB
    obtain ⟨gb, gp, gl, gc, e⟩ := hpm.out.2.2.2.shape
    simp only [Value.agg.injEq, Array.mk.injEq, List.cons.injEq, and_true] at e
    obtain ⟨rfl, rfl⟩ := e
    have hX := HX.out
    subst hX
    by_cases h0 : 0 ≤ u
    · obtain ⟨N, hN⟩ := Int.eq_ofNat_of_zero_le (a := 2 * u) (by omega)
      have HR := Lib.hid (show R = decide (A * 2 ^ N = p) by rw [HF.out, if_pos h0, show (2 * u).toNat = N by omega])
      have HTw := Lib.hid (fun w1 => two_num (2 * u) N (Lib.hid hN) w1 (by omega))
      rw [two_cast N] at HTw
      have hN' : N ≤ 3400 := by omega
      have l3 := le_two_mul HS.out.1 (Nat.le_refl (2 ^ N))
      have HM := Lib.hid (fun w1 u v (hu : IsNum w1 u (A : Int)) (hv : IsNum w1 v ((2 ^ N : Nat) : Int)) => num_mul u v _ _ 20000 w1 hu hv (sized_nat HS.out.1 (by decide)) (sized_nat (Nat.le_refl (2 ^ N)) (by omega)) (by decide))
      rw [← Int.natCast_mul] at HM
      have HC := Lib.hid (fun w1 u v (hu : IsNum w1 u ((A * 2 ^ N : Nat) : Int)) (hv : IsNum w1 v (p : Int)) => num_cmp u v _ _ 20000 w1 hu hv (sized_nat l3 (by omega)) (sized_nat HS.out.2 (by decide)) (by decide))
      have hcm := cmp_eq_zero (A * 2 ^ N) p
      have hwr : IntKind.i64.wrap (2 * u) = 2 * u := IntWalk.i64_in _ (by omega)
      have b1 : 0 ≤ 2 * u := by omega
      have b2 : 2 * u ≤ 3400 := by omega
      generalize A * 2 ^ N = A2 at *
      generalize 2 ^ N = N2 at *
      generalize hgg : cmpI (A2 : Int) (p : Int) = cm at *
      obtain ⟨⟨⟨f1, f2⟩, f3, f4⟩, -⟩ := hpm.out
      clear hgg hN hN' l3 HF HS
      go_wp2_with fail
      go_region_with (first
        | (go_at_call 33; refine (HTw.out _).mono ?_; rintro r1 w1 ⟨t, rfl, ht, hb1⟩; replace hb1 := below_drew' hb1; have hS1 := hpm.out.call hb1; obtain ⟨⟨⟨q1, q2⟩, q3, q4⟩, -⟩ := id hS1)
        | (go_at_call 16; refine (HM.out _ _ _ hS1.2.2.2 ht).mono ?_; rintro r2 w2 ⟨m0, rfl, hm, hb2⟩; have hS2 := hS1.call hb2; obtain ⟨rn, rp, rl, rc, rfl⟩ := hm.shape; obtain ⟨⟨x2, hx2⟩, ⟨y2, hy2⟩, hf1, hf2⟩ := hS2.2.1.2.1.cells))
      all_goals
        have hS5 := Lib.hid (hS2.storeM hm)
        clear hS1 hS2 hm ht hb1 hb2 q1 q2 q3 q4 f1 f2 f3 f4 hx2 hy2 hf1 hf2 HTw HM hpm hwr
        generalize (w2.setCell ⟨M, 0, none⟩ (.bool rn)).setCell ⟨M, 1, none⟩ (.slice rp rl rc) = W5 at *
        obtain ⟨⟨⟨f1, f2⟩, f3, f4⟩, ⟨hE, -⟩, n1, n2⟩ := id hS5.out
        have HC2 := Lib.hid (HC.out _ _ _ n2 n1)
        have HE := Lib.hid hE.1
        clear hS5 n1 n2 hE HC
        go_wp2_with fail
        refine (HC2.out).mono ?_; rintro r3 w6 ⟨rfl, hb6⟩
        go_wp2_with fail
        go_ret
        exact ⟨ret_bool (by rw [HR.out, ← hcm]), HE.out.trans (hb6.mono HE.out.size)⟩
    · obtain ⟨N, hN⟩ := Int.eq_ofNat_of_zero_le (a := -2 * u) (by omega)
      have HR := Lib.hid (show R = decide (A = p * 2 ^ N) by rw [HF.out, if_neg h0, show (-2 * u).toNat = N by omega])
      have HTw := Lib.hid (fun w1 => two_num (-2 * u) N (Lib.hid hN) w1 (by omega))
      rw [two_cast N] at HTw
      have hN' : N ≤ 2200 := by omega
      have l3 := le_two_mul HS.out.2 (Nat.le_refl (2 ^ N))
      have HM := Lib.hid (fun w1 u v (hu : IsNum w1 u (p : Int)) (hv : IsNum w1 v ((2 ^ N : Nat) : Int)) => num_mul u v _ _ 20000 w1 hu hv (sized_nat HS.out.2 (by decide)) (sized_nat (Nat.le_refl (2 ^ N)) (by omega)) (by decide))
      rw [← Int.natCast_mul] at HM
      have HC := Lib.hid (fun w1 u v (hu : IsNum w1 u (A : Int)) (hv : IsNum w1 v ((p * 2 ^ N : Nat) : Int)) => num_cmp u v _ _ 20000 w1 hu hv (sized_nat HS.out.1 (by decide)) (sized_nat l3 (by omega)) (by decide))
      have hcm := cmp_eq_zero A (p * 2 ^ N)
      have hwr : IntKind.i64.wrap (-2 * u) = -2 * u := IntWalk.i64_in _ (by omega)
      have b1 : 0 ≤ -2 * u := by omega
      have b2 : -2 * u ≤ 2200 := by omega
      generalize p * 2 ^ N = p2 at *
      generalize 2 ^ N = N2 at *
      generalize hgg : cmpI (A : Int) (p2 : Int) = cm at *
      obtain ⟨⟨⟨f1, f2⟩, f3, f4⟩, -⟩ := hpm.out
      clear hgg hN hN' l3 HF HS
      go_wp2_with fail
      go_region_with (first
        | (go_at_call 33; refine (HTw.out _).mono ?_; rintro r1 w1 ⟨t, rfl, ht, hb1⟩; replace hb1 := below_drew' hb1; have hS1 := hpm.out.call hb1; obtain ⟨⟨⟨q1, q2⟩, q3, q4⟩, -⟩ := id hS1)
        | (go_at_call 16; refine (HM.out _ _ _ hS1.2.2.1 ht).mono ?_; rintro r2 w2 ⟨m0, rfl, hm, hb2⟩; have hS2 := hS1.call hb2; obtain ⟨rn, rp, rl, rc, rfl⟩ := hm.shape; obtain ⟨⟨x2, hx2⟩, ⟨y2, hy2⟩, hf1, hf2⟩ := hS2.2.1.1.cells))
      all_goals
        have hS5 := Lib.hid (hS2.storeP hm)
        clear hS1 hS2 hm ht hb1 hb2 q1 q2 q3 q4 f1 f2 f3 f4 hx2 hy2 hf1 hf2 HTw HM hpm hwr
        generalize (w2.setCell ⟨w.heap.size + 1, 0, none⟩ (.bool rn)).setCell ⟨w.heap.size + 1, 1, none⟩ (.slice rp rl rc) = W5 at *
        obtain ⟨⟨⟨f1, f2⟩, f3, f4⟩, ⟨hE, -⟩, n1, n2⟩ := id hS5.out
        have HC2 := Lib.hid (HC.out _ _ _ n2 n1)
        have HE := Lib.hid hE.1
        clear hS5 n1 n2 hE HC
        go_wp2_with fail
        refine (HC2.out).mono ?_; rintro r3 w6 ⟨rfl, hb6⟩
        go_wp2_with fail
        go_ret
        exact ⟨ret_bool (by rw [HR.out, ← hcm]), HE.out.trans (hb6.mono HE.out.size)⟩
end Go.Proofs.YtjfcnpanodkmnaaDoor
