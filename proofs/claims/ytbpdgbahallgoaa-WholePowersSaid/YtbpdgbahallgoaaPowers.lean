/- WholePowers: for every a (int64) and n (int) the statement's function returns true and changes nothing that was there. No condition. -/
import Derived.Test.YtbpdgbahallgoaaRows
import Derived.Test.YtbpdgbahallgoaaAwake1
import Derived.Test.YtbpdgbahallgoaaPower
import Derived.Test.YtbpdgbahallgoaaWholee
import Derived.WalkKit
import Derived.ProofKit
import Derived.OpenShut
import Derived.Below
namespace Go.Proofs.Ytbpdgbahallgoaa.wholePowers
open Go.ChangeShapes Go.WideShapes Go.ChangeAt Go.RowKit
set_option linter.unusedVariables false
theorem own : ownKnob Try.prog.godebug = none := by kernel_rfl
theorem pow_none (a n : Int) (hn : n < 0) (w : World) : Calls Try.prog 26 #[.int .i64 a, .int .i64 n] w fun e w' => e = .returned (.tuple #[.int .i64 0, .bool false]) ∧ w = w' := by
  go_enter Try.func26, Try.ntmps26
  go_wp2
  go_ret2
  exact ⟨rfl, rfl⟩
theorem minus_one (n : Nat) : (-1 : Int) ^ n = if n % 2 = 0 then 1 else -1 := by
  induction n with
  | zero => simp
  | succ n ih => rw [Int.pow_succ, ih]; rcases Nat.mod_two_eq_zero_or_one n with h | h <;> simp [h, Nat.add_mod]
theorem pow_far (a : Int) (n : Nat) (hn : 70 < n) : clip (a ^ n) = clip (a ^ (70 + n % 2)) ∧ fitB (a ^ n) = fitB (a ^ (70 + n % 2)) := by
  by_cases h : 2 ≤ a.natAbs
  · have h1 : NoFit (a ^ 70) := by
      have h2 : (a ^ 70).natAbs = a.natAbs ^ 70 := Int.natAbs_pow a 70
      have h3 : 2 ^ 70 ≤ a.natAbs ^ 70 := Nat.pow_le_pow_left h 70
      have h4 : (2 : Nat) ^ 70 = 1180591620717411303424 := by decide
      unfold NoFit; omega
    have h2 := nofit_up (m := 70) (n := n) (by omega) h1
    have h3 := nofit_up (m := 70) (n := 70 + n % 2) (by omega) h1
    exact ⟨by rw [clip_no h2, clip_no h3], by rw [fitB_no h2, fitB_no h3]⟩
  · have : a = 0 ∨ a = 1 ∨ a = -1 := by omega
    have e : a ^ n = a ^ (70 + n % 2) := by
      rcases this with rfl | rfl | rfl
      · rw [Int.zero_pow (by omega), Int.zero_pow (by omega)]
      · rw [Int.one_pow, Int.one_pow]
      · have h2 : (70 + n % 2) % 2 = n % 2 := by omega
        rw [minus_one, minus_one, h2]
    rw [e]; exact ⟨rfl, rfl⟩
/-- What Pow answered, and to which power it is held. -/
def Answer (a n p : Int) (ok : Bool) : Prop := n < 0 ∧ p = 0 ∧ ok = false ∨ 0 ≤ n ∧ n ≤ 70 ∧ (∃ k : Nat, n = (k : Int) ∧ k ≤ 71 ∧ p = clip (a ^ k) ∧ ok = fitB (a ^ k)) ∨ 70 < n ∧ (∃ k : Nat, 70 + n % 2 = (k : Int) ∧ k ≤ 71 ∧ p = clip (a ^ k) ∧ ok = fitB (a ^ k))
theorem sized_a {a : Int} (h1 : -9223372036854775808 ≤ a) (h2 : a ≤ 9223372036854775807) : Sized 7 a := by
  have h3 : (1000 : Int) ^ 7 = 1000000000000000000000 := by decide
  exact ⟨by omega, by omega⟩
/-- The contracts that the tail takes, laid once. -/
def Tail (a : Int) : Prop := (∀ w, Calls Try.prog 8 #[.int .i64 a] w (MadeNum w a)) ∧
  (∀ v i (k : Nat) w, Hid (i = (k : Int)) → k ≤ 71 → IsNum w v a → Calls Try.prog 29 #[v, .int .i64 i] w (MadeNum w (a ^ k))) ∧
  (∀ v (k : Nat) w, k ≤ 71 → IsNum w v (a ^ k) → Calls Try.prog 14 #[.int .i64 (clip (a ^ k)), .bool (fitB (a ^ k)), v] w fun e w' => e = .returned (.bool true) ∧ Below w.heap.size w w')
theorem tail {a : Int} (h1 : -9223372036854775808 ≤ a) (h2 : a ≤ 9223372036854775807) : Tail a :=
  ⟨fun w => of_any a w h1 h2, fun v i k w hi hk hv => num_power 7 k v a i k w (Nat.le_refl _) hi (by omega) (by omega) hv (sized_a h1 h2),
    fun v k w hk hv => is_any v _ 600 w hv ((sized_pow (sized_a h1 h2) k).mono (by omega)) (by omega) (by omega)⟩
set_option maxHeartbeats 1000000 in
theorem walk_neg (a n p : Int) (ok : Bool) (w : World) (ha : a < 0) (HT : Hid (Tail a)) (hans : Hid (Answer a n p ok))
    (HP : Hid (∀ w, Calls Try.prog 26 #[.int .i64 a, .int .i64 n] w fun e w' => e = .returned (.tuple #[.int .i64 p, .bool ok]) ∧ w = w'))
    (HR : Hid (∀ w, Calls Try.prog 27 #[.int .i64 a] w fun e w' => e = .returned (.tuple #[.int .i64 0, .bool false]) ∧ w = w')) :
    Calls Try.prog 6 #[.int .i64 a, .int .i64 n] w fun e w' => e = .returned (.bool true) ∧ Below w.heap.size w w' := by
  have ha2 : ¬ 0 ≤ a := by omega
  go_enter Try.func6, Try.ntmps6
  go_wp2_with fail
  refine (HP.out _).mono ?_; rintro e w' ⟨rfl, rfl⟩
  go_wp2_with fail
  refine (HR.out _).mono ?_; rintro e w' ⟨rfl, rfl⟩
  clear HP HR
  have hE := Lib.hid (Below.refl w.heap.size w)
  rcases hans.out with ⟨hn, rfl, rfl⟩ | ⟨hn, hn2, k, hk, hk2, rfl, rfl⟩ | ⟨hn, k, hk, hk2, rfl, rfl⟩
  · clear hans
    go_wp2_with fail
    refine (awake_any _).mono ?_; rintro e w2 ⟨rfl, hb2⟩
    go_wp2_with fail
    go_ret
    exact ⟨rfl, hE.out.trans (hb2.mono hE.out.size)⟩
  all_goals
    have HK := Lib.hid hk
    clear hk hans
    have HI := Lib.hid (fun v w => HT.out.2.2 v k w hk2)
    have HO := Lib.hid (fun v i w hi => HT.out.2.1 v i k w hi hk2)
    generalize clip (a ^ k) = p at *
    generalize fitB (a ^ k) = ok at *
    go_wp2_with fail
    refine (HT.out.1 _).mono ?_; rintro e w2 ⟨v, rfl, hv, hb2⟩
    have hE := Lib.hid (hE.out.trans (hb2.mono hE.out.size))
    go_wp2_with fail
    refine (HO.out _ _ _ HK hv).mono ?_; rintro e w3 ⟨v3, rfl, hv3, hb3⟩
    have hE := Lib.hid (hE.out.trans (hb3.mono hE.out.size))
    go_wp2_with fail
    refine (HI.out _ _ hv3).mono ?_; rintro e w4 ⟨rfl, hb4⟩
    have hE := Lib.hid (hE.out.trans (hb4.mono hE.out.size))
    go_wp2_with fail
    refine (awake_any _).mono ?_; rintro e w5 ⟨rfl, hb5⟩
    have hE := Lib.hid (hE.out.trans (hb5.mono hE.out.size))
    go_wp2_with fail
    go_ret
    exact ⟨rfl, hE.out⟩
theorem sized_root {r : Int} (h0 : 0 ≤ r) (h1 : r ≤ 4294967296) : Sized 8 (r * r) ∧ Sized 8 r := by
  have h2 : r * r ≤ 4294967296 * 4294967296 := Int.mul_le_mul h1 h1 h0 (by decide)
  have h3 : 0 ≤ r * r := Int.mul_nonneg h0 h0
  exact ⟨sized8 (by omega) (by omega), sized8 (by omega) (by omega)⟩
theorem bcell {W w1 : World} (hb : Below W.heap.size W w1) : (∀ b o, b < W.heap.size → w1.cell? ⟨b, o, none⟩ = W.cell? ⟨b, o, none⟩) ∧ (∀ b o, b < W.heap.size → w1.frozen? ⟨b, o, none⟩ = W.frozen? ⟨b, o, none⟩) :=
  ⟨fun b o h => hb.cell (p := ⟨b, o, none⟩) h, fun b o h => hb.frozen (p := ⟨b, o, none⟩) h⟩
theorem x_lt {w1 w2 : World} {o : Obj} (h : Below (w1.alloc o).heap.size (w1.alloc o) w2) : w1.heap.size < w2.heap.size := by have := h.size; simp at this; omega
theorem from_drew {W w2 : World} (hb : Below W.drew.heap.size W.drew w2) : Below W.heap.size W w2 := (Below.refl _ _).drew.trans hb
theorem from_alloc {W w2 : World} {o : Obj} (hb : Below (W.alloc o).drew.heap.size (W.alloc o).drew w2) : Below W.heap.size W w2 :=
  (below_one W o).drew.trans (hb.mono (below_one W o).drew.size)
/-- What the variables x and y hold behind their second statement. -/
def Meet (w : World) (X M : Nat) (a b : Value) (r : Int) (wx : World) : Prop :=
  ∃ u t, wx.cell? ⟨M, 0, none⟩ = some u ∧ wx.cell? ⟨M, 1, none⟩ = some t ∧ IsNum wx (.agg #[u, t]) (r + 1) ∧ wx.cell? ⟨X, 0, none⟩ = some a ∧ wx.cell? ⟨X, 1, none⟩ = some b ∧ IsNum wx (.agg #[a, b]) r ∧ Below w.heap.size w wx
theorem set_cells {w w1 : World} {N : Nat} {T : TypeId} (h : Kept w N T w1) (u v : Value) :
    ((w1.setCell ⟨N, 0, none⟩ u).setCell ⟨N, 1, none⟩ v).cell? ⟨N, 0, none⟩ = some u ∧ ((w1.setCell ⟨N, 0, none⟩ u).setCell ⟨N, 1, none⟩ v).cell? ⟨N, 1, none⟩ = some v := by
  obtain ⟨h1, h2, x, y, h3⟩ := h
  have h4 := set_two (u := u) (v := v) h3
  exact ⟨by simp [World.cell?, h4], by simp [World.cell?, h4]⟩
theorem meet_alloc {w w1 w3 : World} {a b u t : Value} {r : Int} (hw : Below w.heap.size w (w1.alloc (.cells #[a, b] 24))) (hx : IsNum (w1.alloc (.cells #[a, b] 24)) (.agg #[a, b]) r)
    (h : Below (w1.alloc (.cells #[a, b] 24)).heap.size (w1.alloc (.cells #[a, b] 24)) w3) (hy : IsNum w3 (.agg #[u, t]) (r + 1)) :
    Meet w w1.heap.size w3.heap.size a b r (w3.alloc (.cells #[u, t] 24)) := by
  have h2 := below_one w3 (.cells #[u, t] 24)
  exact ⟨u, t, by simp [go_sem], by simp [go_sem], hy.below h2, cell_later h2 (cell_later h (by simp [go_sem])), cell_later h2 (cell_later h (by simp [go_sem])), (hx.below h).below h2, (hw.trans (h.mono hw.size)).trans (h2.mono (by have := hw.size; have := h.size; omega))⟩
theorem meet_set {w w1 V w3 : World} {M : Nat} {a b u t : Value} {r : Int} (hw : Below w.heap.size w (w1.alloc (.cells #[a, b] 24))) (hx : IsNum (w1.alloc (.cells #[a, b] 24)) (.agg #[a, b]) r)
    (hV : Below (w1.alloc (.cells #[a, b] 24)).heap.size (w1.alloc (.cells #[a, b] 24)) V) (hk : Kept V M 24 w3) (hy : IsNum w3 (.agg #[u, t]) (r + 1)) :
    Meet w w1.heap.size M a b r ((w3.setCell ⟨M, 0, none⟩ u).setCell ⟨M, 1, none⟩ t) := by
  have hM : w1.heap.size < M := by have := x_lt hV; have := hk.2.1; omega
  have h := hV.trans (hk.1.mono hV.size)
  have hs := set_cells hk u t
  have hx3 := hx.below h
  obtain ⟨h1, h2, p, q, h3⟩ := id hk
  obtain ⟨cur, h4⟩ := heap_setCell_cells (p := ⟨M, 0, none⟩) (u := u) h3
  refine ⟨u, t, hs.1, hs.2, hk.num hy, ?_, ?_, (hx3.set u h3 (by decide)).set t h4 (by decide), ?_⟩
  · rw [World.cell?_setCell_far _ _ _ _ (by simp; omega), World.cell?_setCell_far _ _ _ _ (by simp; omega)]; exact cell_later h (by simp [go_sem])
  · rw [World.cell?_setCell_far _ _ _ _ (by simp; omega), World.cell?_setCell_far _ _ _ _ (by simp; omega)]; exact cell_later h (by simp [go_sem])
  · have hsz := hw.size
    simp only [World.size_alloc] at hsz
    exact ((hw.trans (h.mono hw.size)).setCell (by simp; omega) _).setCell (by simp; omega) _
set_option maxRecDepth 100000 in
set_option maxHeartbeats 2000000 in
theorem walk_pos (a n p : Int) (ok : Bool) (w : World) (ha : 0 ≤ a) (ha2 : a ≤ 9223372036854775807) (HT : Hid (Tail a)) (hans : Hid (Answer a n p ok))
    (HP : Hid (∀ w, Calls Try.prog 26 #[.int .i64 a, .int .i64 n] w fun e w' => e = .returned (.tuple #[.int .i64 p, .bool ok]) ∧ w = w'))
    (HR : Hid (Calls Try.prog 27 #[.int .i64 a] w (RootOf a w))) :
    Calls Try.prog 6 #[.int .i64 a, .int .i64 n] w fun e w' => e = .returned (.bool true) ∧ Below w.heap.size w w' := by
  go_enter Try.func6, Try.ntmps6
  go_wp2_with fail
  refine (HP.out _).mono ?_; rintro e w' ⟨rfl, rfl⟩
  go_wp2_with fail
  refine (HR.out).mono ?_; rintro e w' ⟨r, rfl, r0, r1, hr1, hr2, rfl⟩
  clear HP HR
  have c1 : ¬ 0 < cmpI (r * r) a := fun h => by have := (cmpI_le (x := r * r) (y := a)).2 hr1; omega
  have c2 : ¬ cmpI ((r + 1) * (r + 1)) a ≤ 0 := fun h => by have := (cmpI_le (x := (r + 1) * (r + 1)) (y := a)).1 h; omega
  obtain ⟨z1, z2⟩ := sized_root (r := r) r0 (by omega)
  obtain ⟨z3, z4⟩ := sized_root (r := r + 1) (by omega) (by omega)
  have z5 : Sized 8 a := sized8 (by omega) (by omega)
  have HM1 := Lib.hid (fun w1 u (hu : IsNum w1 u r) => num_mul u u r r 8 w1 hu hu z2 z2 (by decide))
  have HM2 := Lib.hid (fun w1 u (hu : IsNum w1 u (r + 1)) => num_mul u u (r + 1) (r + 1) 8 w1 hu hu z4 z4 (by decide))
  have HC1 := Lib.hid (fun w1 u v (hu : IsNum w1 u (r * r)) (hv : IsNum w1 v a) => num_cmp u v (r * r) a 8 w1 hu hv z1 z5 (by decide))
  have HC2 := Lib.hid (fun w1 u v (hu : IsNum w1 u ((r + 1) * (r + 1))) (hv : IsNum w1 v a) => num_cmp u v ((r + 1) * (r + 1)) a 8 w1 hu hv z3 z5 (by decide))
  have HA := Lib.hid (fun w1 u v (hu : IsNum w1 u r) (hv : IsNum w1 v 1) => num_add u v r 1 8 w1 hu hv z2 (sized8 (by decide) (by decide)) (by decide))
  clear z1 z2 z3 z4 z5 hr1 hr2
  generalize cmpI (r * r) a = d1 at *
  generalize cmpI ((r + 1) * (r + 1)) a = d2 at *
  go_wp2_with fail
  refine (of_any r _ (by omega) (by omega)).mono ?_; rintro e w1 ⟨x, rfl, hx, hb1⟩
  obtain ⟨xb, xp, xl, xc, rfl⟩ := hx.shape
  have HX := Lib.hid hx
  clear hx
  have hE := Lib.hid (hb1.trans ((below_one w1 (.cells #[.bool xb, .slice xp xl xc] 24)).mono hb1.size))
  have HX1 := Lib.hid (HX.out.below (below_one w1 (.cells #[.bool xb, .slice xp xl xc] 24)))
  clear hb1 HX
  go_upto_region 7 with fail
  go_cut [10] (fun s10 wx => ∃ M : Nat, s10 = .pointer (some ⟨M, 0, none⟩) ∧ Hid (Meet w w1.heap.size M (.bool xb) (.slice xp xl xc) r wx))
  case first =>
    go_region_with (first
      | (go_at_call 13; refine (nat_any 1 _ (by decide) (by decide)).mono ?_; rintro e w2 ⟨o, rfl, ho, hb2⟩; obtain ⟨hc2, hf2⟩ := bcell hb2; have hz2 := hb2.size; try simp at hz2; (first | (have hzz : w1.heap.size + 1 < w2.heap.size := Nat.lt_of_succ_le hz2) | skip); have hk2 : Below (w1.alloc (.cells #[.bool xb, .slice xp xl xc] 24)).heap.size (w1.alloc (.cells #[.bool xb, .slice xp xl xc] 24)) w2 := (by first | exact from_drew hb2 | exact from_alloc hb2); have hzx := x_lt hk2)
      | (go_at_call 12; refine (HA.out _ _ _ ?_ ?_).mono ?_; (first | exact HX1.out.below hk2 | exact (HX1.out.below hk2).below (below_one _ _)); (first | exact ho | exact ho.below (below_one _ _)); rintro e w3 ⟨y, rfl, hy, hb3⟩; obtain ⟨yb, yp, yl, yc, rfl⟩ := hy.shape; obtain ⟨hc3, hf3⟩ := bcell hb3; have hz3 := hb3.size; try simp at hz3))
    all_goals
      clear hc2 hf2 hc3 hf3
      go_wp2_with fail
      go_meet
      first
        | exact ⟨_, rfl, Lib.hid (meet_alloc hE.out HX1.out (hk2.trans (hb3.mono hk2.size)) hy)⟩
        | exact ⟨_, rfl, Lib.hid (meet_set hE.out HX1.out hk2 ((Kept.start w2 _ _ _).call hb3) hy)⟩
        | exact ⟨_, rfl, Lib.hid (meet_set hE.out HX1.out (Below.refl _ _) (by have q := (((Kept.start (w1.alloc (.cells #[.bool xb, .slice xp xl xc] 24)) (.bool false) (.slice none 0 0) 24).call (Below.refl _ _).drew).call hb2).call hb3; simp only [World.size_alloc] at q; exact q) hy)⟩
  case rest =>
    obtain ⟨M, rfl, hmeet⟩ := hcut
    obtain ⟨u, t, q1, q2, q3, q4, q5, q6, q7⟩ := hmeet.out
    clear hE HX1 hmeet
    have hE := Lib.hid q7
    have HY := Lib.hid q3
    have HX := Lib.hid q6
    clear q7 q3 q6 HA
    have r2 : ¬ r < 0 := by omega
    go_wp2_with fail
    refine (HM1.out _ _ HX.out).mono ?_; rintro e w2 ⟨m1, rfl, hm1, hb2⟩
    have y1 := cell_later hb2 q1
    have y2 := cell_later hb2 q2
    have hE2 := Lib.hid (hE.out.trans (hb2.mono hE.out.size))
    have HY2 := Lib.hid (HY.out.below hb2)
    clear q1 q2 q4 q5 hE HY HX hb2 HM1
    go_wp2_with fail
    refine (HT.out.1 _).mono ?_; rintro e w3 ⟨v3, rfl, hv3, hb3⟩
    have q1 := cell_later hb3 y1
    have q2 := cell_later hb3 y2
    have hE := Lib.hid (hE2.out.trans (hb3.mono hE2.out.size))
    have HY := Lib.hid (HY2.out.below hb3)
    have hm1 := hm1.below hb3
    clear y1 y2 hE2 HY2 hb3
    go_wp2_with fail
    refine (HC1.out _ _ _ hm1 hv3).mono ?_; rintro e w4 ⟨rfl, hb4⟩
    have y1 := cell_later hb4 q1
    have y2 := cell_later hb4 q2
    have hE2 := Lib.hid (hE.out.trans (hb4.mono hE.out.size))
    have HY2 := Lib.hid (HY.out.below hb4)
    clear q1 q2 hE HY hb4 hm1 hv3 HC1
    go_wp2_with fail
    refine (HM2.out _ _ HY2.out).mono ?_; rintro e w5 ⟨m2, rfl, hm2, hb5⟩
    have hE := Lib.hid (hE2.out.trans (hb5.mono hE2.out.size))
    clear y1 y2 hE2 HY2 hb5 HM2
    go_wp2_with fail
    refine (HT.out.1 _).mono ?_; rintro e w6 ⟨v6, rfl, hv6, hb6⟩
    have hm2 := hm2.below hb6
    have hE := Lib.hid (hE.out.trans (hb6.mono hE.out.size))
    clear hb6
    go_wp2_with fail
    refine (HC2.out _ _ _ hm2 hv6).mono ?_; rintro e w7 ⟨rfl, hb7⟩
    have hE := Lib.hid (hE.out.trans (hb7.mono hE.out.size))
    clear hb7 hm2 hv6 HC2
    rcases hans.out with ⟨hn, rfl, rfl⟩ | ⟨hn, hn2, k, hk, hk2, rfl, rfl⟩ | ⟨hn, k, hk, hk2, rfl, rfl⟩
    · clear hans
      go_wp2_with fail
      refine (awake_any _).mono ?_; rintro e w2 ⟨rfl, hb2⟩
      go_wp2_with fail
      go_ret
      exact ⟨rfl, hE.out.trans (hb2.mono hE.out.size)⟩
    all_goals
      have HK := Lib.hid hk
      clear hk hans
      have HI := Lib.hid (fun v w => HT.out.2.2 v k w hk2)
      have HO := Lib.hid (fun v i w hi => HT.out.2.1 v i k w hi hk2)
      generalize clip (a ^ k) = p at *
      generalize fitB (a ^ k) = ok at *
      go_wp2_with fail
      refine (HT.out.1 _).mono ?_; rintro e w2 ⟨v, rfl, hv, hb2⟩
      have hE := Lib.hid (hE.out.trans (hb2.mono hE.out.size))
      go_wp2_with fail
      refine (HO.out _ _ _ HK hv).mono ?_; rintro e w3 ⟨v3, rfl, hv3, hb3⟩
      have hE := Lib.hid (hE.out.trans (hb3.mono hE.out.size))
      go_wp2_with fail
      refine (HI.out _ _ hv3).mono ?_; rintro e w4 ⟨rfl, hb4⟩
      have hE := Lib.hid (hE.out.trans (hb4.mono hE.out.size))
      go_wp2_with fail
      refine (awake_any _).mono ?_; rintro e w5 ⟨rfl, hb5⟩
      have hE := Lib.hid (hE.out.trans (hb5.mono hE.out.size))
      go_wp2_with fail
      go_ret
      exact ⟨rfl, hE.out⟩
theorem answer_any (a n : Int) (h1 : -9223372036854775808 ≤ a) (h2 : a ≤ 9223372036854775807) (h3 : -9223372036854775808 ≤ n) (h4 : n ≤ 9223372036854775807) :
    ∃ p ok, Answer a n p ok ∧ ∀ w, Calls Try.prog 26 #[.int .i64 a, .int .i64 n] w fun e w' => e = .returned (.tuple #[.int .i64 p, .bool ok]) ∧ w = w' := by
  by_cases hn : n < 0
  · exact ⟨0, false, .inl ⟨hn, rfl, rfl⟩, pow_none a n hn⟩
  · obtain ⟨N, rfl⟩ := Int.eq_ofNat_of_zero_le (show 0 ≤ n by omega)
    have hP := pow_any a N h1 h2 (by omega) h4
    simp only [Int.toNat_natCast] at hP
    refine ⟨_, _, ?_, hP⟩
    by_cases h70 : (N : Int) ≤ 70
    · exact .inr (.inl ⟨by omega, h70, N, rfl, by omega, rfl, rfl⟩)
    · have hf := pow_far a N (by omega)
      exact .inr (.inr ⟨by omega, 70 + N % 2, by omega, by omega, hf.1, hf.2⟩)
theorem walk (a n : Int) (w0 : (Lit.int .i64 a).wf = true) (w1 : (Lit.int .i64 n).wf = true) (w : World) :
    Calls Try.prog 6 #[.int .i64 a, .int .i64 n] w fun e w' => e = .returned (.bool true) ∧ Below w.heap.size w w' := by
  obtain ⟨a1, a2⟩ := bounds_i64 w0
  obtain ⟨n1, n2⟩ := bounds_i64 w1
  obtain ⟨p, ok, hans, hP⟩ := answer_any a n a1 a2 n1 n2
  have HT := Lib.hid (tail a1 a2)
  by_cases h : a < 0
  · exact walk_neg a n p ok w h HT (Lib.hid hans) (Lib.hid hP) (Lib.hid (root_none a h))
  · exact walk_pos a n p ok w (by omega) a2 HT (Lib.hid hans) (Lib.hid hP) (Lib.hid (root_any a (by omega) a2 w))
set_option maxRecDepth 100000 in
theorem lifted (os : Os) (started : os.Started) (H : Type) (enc : TypeId × Value → H) :
    ReturnsInHanded {} Try.checked os 6 .any (Rows.wholePowersSpec.pre6 enc Try.prog Try.f6 Rows.wholePowersRow.domain false) (Rows.wholePowersSpec.post enc Try.prog Try.f6 false true false false) := by
  refine returnsInHanded_of_change (C := Try.checked) own started (by kernel_rfl) Try.func6
    (ChangeSpec.witness6 (enc := enc) (C := Try.checked) false ⟨#[], #[.int .i64 0, .int .i64 0], []⟩ 8 (by kernel_rfl) (by kernel_rfl) (by kernel_rfl) (by kernel_rfl)) ?_
  intro W base args ds gs before hval0 hW hcnd _
  have hval : ∀ (j : Nat) t v, Try.f6.params[j]? = some t → args[j]? = some v → Value.okWide Try.prog W .any base t v := hval0
  have hW' := hW
  obtain ⟨p, q, hA0, hV, rfl, hfz, hnd⟩ := hW
  have hA : DataW.TrodAll enc Try.prog W 0 (fun _ => true) true Try.f6.params.toList args.toList ds p := hA0
  rw [Try.params6] at hA hval
  obtain ⟨v0, vs0, d0, ds0, p0, q0, hargs, rfl, rfl, h0, r0⟩ := trodAll_cons hA
  obtain ⟨v1, vs1, d1, ds1, p1, q1, rfl, rfl, rfl, h1, r1⟩ := trodAll_cons r0
  obtain ⟨rfl, rfl, rfl⟩ := trodAll_nil r1
  obtain rfl : args = #[v0, v1] := by cases args; simp_all
  obtain ⟨rfl, rfl⟩ := trodVars_none hV
  obtain ⟨a0, rfl, rfl, rfl, w0⟩ := open_int Try.underlying2 (hval 0 2 v0 rfl rfl) h0
  obtain ⟨a1, rfl, rfl, rfl, w1⟩ := open_int Try.underlying3 (hval 1 3 v1 rfl rfl) h1
  clear hA0 hval0
  simp only [List.append_nil] at hW'
  refine (walk a0 a1 w0 w1 W).mono fun e W' ⟨he, bel⟩ => ?_
  subst he
  exact ⟨_, rfl, _, _, _, [], _, [], hW', trodAll_mk1 (shut_bool Try.underlying4 _), (trodAll_cons_mk (shut_int Try.underlying2 w0) (trodAll_cons_mk (shut_int Try.underlying3 w1) trodAll_mk0)), rfl, bel.frame _, fun h => by cases h⟩

theorem over : Rows.wholePowersRow.holds Try.pinned (OpenSpec.ofChange Rows.wholePowersSpec) :=
  OpenClaim.holds_of_wide 6 Try.f6 rfl rfl rfl rfl rfl rfl rfl ⟨rfl, rfl, rfl, rfl, rfl⟩ rfl rfl rfl rfl rfl (by kernel_rfl) Try.func6 (by kernel_rfl)
    (of_decide_eq_true (by kernel_rfl)) (by unfold Func.isWrapper; first | (rw [if_pos (by decide +kernel)]; kernel_rfl) | (rw [if_neg (by decide +kernel)]; exact ⟨rfl, rfl⟩))
    (fun os started H enc _ => lifted os started H enc)
end Go.Proofs.Ytbpdgbahallgoaa.wholePowers
namespace Go.Proofs.Ytbpdgbahallgoaa
/-- The statement. -/
theorem wholePowers_holds : Rows.WholePowersSaid := wholePowers.over
#print axioms wholePowers_holds
end Go.Proofs.Ytbpdgbahallgoaa
