/- The generic read at its five types; the reader's functions. -/
import Derived.Test.YtdnbjaeeebodkaaGreatBufd
namespace Go.Proofs.YtdnbjaeeebodkaaGreat
set_option maxRecDepth 100000
open Go.RowKit
set_option linter.unusedVariables false
theorem uN_fit (most : Int) {b : List Int} (hb : Bt b) : (uN most (getU b)).2.2 < 9 ∧ ((uN most (getU b)).2.2 = 0 → (uN most (getU b)).2.1 ≤ b.length) ∧ ((uN most (getU b)).2.2 ≠ 0 → (uN most (getU b)).1 = 0) := by
  have h1 := getU_fit hb
  have h2 := fun h => getU_zero (b := b) h
  unfold uN
  split
  · simp
  · exact ⟨h1.2, fun h => (h1.1 h).1, fun h => (h2 h).1⟩
theorem getI_fit2 {b : List Int} : (getI b).2.2 < 9 ∧ ((getI b).2.2 = 0 → (getI b).2.1 ≤ b.length) ∧ ((getI b).2.2 ≠ 0 → (getI b).1 = 0) :=
  ⟨getI_fit.2, getI_fit.1, fun h => (getI_zero h).1⟩
theorem fN_fit {b : List Int} : (fN (getF b)).2.2 < 9 ∧ ((fN (getF b)).2.2 = 0 → (fN (getF b)).2.1 ≤ b.length) ∧ ((fN (getF b)).2.2 ≠ 0 → (fN (getF b)).1 = 0) := by
  have h1 := getF_fit (b := b)
  unfold fN
  split
  · rename_i h; simp; exact h1.1 h
  · rename_i h; simp [h]; exact h1.2
theorem tN_fit (most : Int) {b : List Int} : (tN most (getT b [] 0)).2.2 < 9 ∧ ((tN most (getT b [] 0)).2.2 = 0 → (tN most (getT b [] 0)).2.1 ≤ b.length) ∧ ((tN most (getT b [] 0)).2.2 ≠ 0 → (tN most (getT b [] 0)).1 = []) := by
  have h1 := getT_fit b [] 0
  unfold tN
  split
  · simp
  · exact ⟨h1.2.1, fun h => by have := (h1.1 h).1; omega, fun h => (h1.2.2 h).1⟩
theorem bN_fit (most : Int) {b : List Int} (hb : Bt b) : (bN most b).2.2 < 9 ∧ ((bN most b).2.2 = 0 → (bN most b).2.1 ≤ b.length) ∧ ((bN most b).2.2 ≠ 0 → (bN most b).1 = []) := by
  have h1 := getU_fit hb
  unfold bN
  split
  · rename_i h0; exact ⟨h1.2, fun h => absurd h h0, fun _ => rfl⟩
  · rename_i h0
    have h2 := h1.1 (by simpa using h0)
    split
    · simp
    · split
      · simp
      · simp; omega
theorem Ints.grown2 {w w' : World} {v : Value} {zs b : List Int} {N p e : Nat} (h : Ints .u8 w v zs) (ht : Typed 5 w v) (hi : InAt w N b p e) (hg : w.grownBy w' (some N)) : Ints .u8 w' v zs := by
  obtain ⟨u, h1, -⟩ := hi
  exact h.grown ht h1 (by decide) hg
/-- What a reading function leaves: the value, the reader behind it, and that nothing else has changed. -/
def ReadP (V : Value → World → Prop) (w : World) (N : Nat) (b : List Int) (p n e : Nat) (r : Ending) (w' : World) : Prop := (∃ v, r = .returned v ∧ V v w') ∧ InAt w' N b (if e = 0 then p + n else p) e ∧ w.grownBy w' (some N)
set_option maxHeartbeats 1000000 in
theorem readU_any (w : World) (N : Nat) (b : List Int) (p : Nat) (M : Nat) (most : Int) (h : InAt w N b p 0) (hM : w.cell? ⟨M, 0, none⟩ = some (.int .u64 most)) :
    Calls Tryz.prog 46 #[.pointer (some ⟨N, 0, none⟩), .func (.func 47) #[] #[.pointer (some ⟨M, 0, none⟩)]] w (ReadP (fun v _ => v = .int .u64 (uN most (getU (b.drop p))).1) w N b p (uN most (getU (b.drop p))).2.1 (uN most (getU (b.drop p))).2.2) := by
  have HF := Lib.hid (failed_any w N b p 0 h)
  have HI := Lib.hid h
  obtain ⟨v, h, hv, ht, hbt, hl, hp⟩ := h
  obtain ⟨r0, r1, -, -⟩ := h.reads
  have hv2 := hv
  obtain ⟨a, cap, rfl, -, -⟩ := hv2
  obtain ⟨u, c, hop, hi⟩ := tail_any hv hp
  have HC := Lib.hid (fun w1 (h : Below w.heap.size w w1) => cU_any _ (b.drop p) most M w1 (hi.below h) (hbt.drop p) (by simp; omega) (cell_on h hM))
  have HR := Lib.hid (uN_fit most (hbt.drop p))
  have hdl : (b.drop p).length = b.length - p := by simp
  rw [hdl] at HR
  unfold ReadP
  generalize uN most (getU (b.drop p)) = rr at *
  obtain ⟨x, n, e⟩ := rr
  try unfold trip at HC
  simp only at HC HR
  clear h hv ht hi hdl hM
  by_cases he : e = 0
  · subst he
    rw [if_pos rfl]
    have i2 : IntKind.i64.wrap ((p : Int) + n) = ((p + n : Nat) : Int) := by have := HR.out.2.1 (by trivial); rw [IntWalk.i64_in _ (by omega)]; omega
    go_enter Tryz.func46, Tryz.ntmps46
    go_wp2_with fail
    refine (HF.out).mono ?_; rintro r w1 ⟨rfl, rfl⟩
    go_upto_region 4 with fail
    have hk : w.drew.cell? ⟨N, 0, none⟩ = some (.slice a b.length cap) ∧ w.drew.cell? ⟨N, 1, none⟩ = some (.int .i64 p) := ⟨by simp [r0], by simp [r1]⟩
    have hBw : Below w.heap.size w w.drew := (Below.refl _ _).drew
    go_region_held3 (fun w' => w'.cell? ⟨N, 0, none⟩ = some (.slice a b.length cap) ∧ w'.cell? ⟨N, 1, none⟩ = some (.int .i64 p)) (with_reducible exact hk)
      ((go_at_call 47; refine (HC.out _ hBw).mono ?_; rintro r w2 ⟨rfl, hb2⟩; have hk := And.intro (cell_on hb2 hk.1) (cell_on hb2 hk.2); have hBw := below_then hBw hb2; clear hb2))
    have HB := Lib.hid hBw
    have h2 := HI.out.below hBw
    have HE := Lib.hid (h2.pos (q := p + n) (by have := HR.out.2.1 (by trivial); omega))
    have HG := Lib.hid (grown_then (grown_below hBw (some N)) (grown_set _ N 1 (.int .i64 ((p + n : Nat) : Int))))
    obtain ⟨v2', h2, -⟩ := h2
    obtain ⟨s0, s1, s2, s3⟩ := h2.reads
    obtain ⟨f1, f2⟩ := h2.free
    clear h2 hk hBw
    go_wp2_with fail
    go_ret
    exact ⟨⟨_, rfl, rfl⟩, HE.out, HG.out⟩
  · rw [if_neg he]
    have he' : ((e : Int) != 0) = true := by simp; omega
    go_enter Tryz.func46, Tryz.ntmps46
    go_wp2_with fail
    refine (HF.out).mono ?_; rintro r w1 ⟨rfl, rfl⟩
    go_upto_region 4 with fail
    have hk : w.drew.cell? ⟨N, 0, none⟩ = some (.slice a b.length cap) ∧ w.drew.cell? ⟨N, 1, none⟩ = some (.int .i64 p) := ⟨by simp [r0], by simp [r1]⟩
    have hBw : Below w.heap.size w w.drew := (Below.refl _ _).drew
    go_region_held3 (fun w' => w'.cell? ⟨N, 0, none⟩ = some (.slice a b.length cap) ∧ w'.cell? ⟨N, 1, none⟩ = some (.int .i64 p)) (with_reducible exact hk)
      ((go_at_call 47; refine (HC.out _ hBw).mono ?_; rintro r w2 ⟨rfl, hb2⟩; have hk := And.intro (cell_on hb2 hk.1) (cell_on hb2 hk.2); have hBw := below_then hBw hb2; clear hb2))
    have HB := Lib.hid hBw
    have h2 := HI.out.below hBw
    have HE := Lib.hid (h2.err e)
    have HG := Lib.hid (grown_then (grown_below hBw (some N)) (grown_set _ N 2 (.int .i64 e)))
    obtain ⟨v2', h2, -⟩ := h2
    obtain ⟨s0, s1, s2, s3⟩ := h2.reads
    obtain ⟨f1, f2⟩ := h2.free
    clear h2 hk hBw
    go_wp2_with fail
    go_ret
    exact ⟨⟨_, rfl, by rw [HR.out.2.2 he]; rfl⟩, HE.out, HG.out⟩
theorem readU_shut (w : World) (v f : Value) (e : Nat) (h : Shut v e w) :
    Calls Tryz.prog 46 #[v, f] w fun r w' => r = .returned (.int .u64 0) ∧ w = w' := by
  have HF := Lib.hid (h.2.2 w (Below.refl _ _))
  have he : ((e : Int) != 0) = true := by have := h.1; simp; omega
  clear h
  go_enter Tryz.func46, Tryz.ntmps46
  go_wp2_with fail
  refine (HF.out).mono ?_; rintro r w1 ⟨rfl, rfl⟩
  go_wp2_with fail
  go_ret
  exact ⟨rfl, rfl⟩
set_option maxHeartbeats 1000000 in
theorem readI_any (w : World) (N : Nat) (b : List Int) (p : Nat)  (h : InAt w N b p 0)  :
    Calls Tryz.prog 75 #[.pointer (some ⟨N, 0, none⟩), .func (.func 76) #[] #[]] w (ReadP (fun v _ => v = .int .i64 (getI (b.drop p)).1) w N b p (getI (b.drop p)).2.1 (getI (b.drop p)).2.2) := by
  have HF := Lib.hid (failed_any w N b p 0 h)
  have HI := Lib.hid h
  obtain ⟨v, h, hv, ht, hbt, hl, hp⟩ := h
  obtain ⟨r0, r1, -, -⟩ := h.reads
  have hv2 := hv
  obtain ⟨a, cap, rfl, -, -⟩ := hv2
  obtain ⟨u, c, hop, hi⟩ := tail_any hv hp
  have HC := Lib.hid (fun w1 (h : Below w.heap.size w w1) => pgetI_any _ (b.drop p) w1 (hi.below h) (hbt.drop p) (by simp; omega))
  have HR := Lib.hid (getI_fit2 (b := b.drop p))
  have hdl : (b.drop p).length = b.length - p := by simp
  rw [hdl] at HR
  unfold ReadP
  generalize getI (b.drop p) = rr at *
  obtain ⟨x, n, e⟩ := rr
  try unfold tripI at HC
  simp only at HC HR
  clear h hv ht hi hdl
  by_cases he : e = 0
  · subst he
    rw [if_pos rfl]
    have i2 : IntKind.i64.wrap ((p : Int) + n) = ((p + n : Nat) : Int) := by have := HR.out.2.1 (by trivial); rw [IntWalk.i64_in _ (by omega)]; omega
    go_enter Tryz.func75, Tryz.ntmps75
    go_wp2_with fail
    refine (HF.out).mono ?_; rintro r w1 ⟨rfl, rfl⟩
    go_upto_region 4 with fail
    have hk : w.drew.cell? ⟨N, 0, none⟩ = some (.slice a b.length cap) ∧ w.drew.cell? ⟨N, 1, none⟩ = some (.int .i64 p) := ⟨by simp [r0], by simp [r1]⟩
    have hBw : Below w.heap.size w w.drew := (Below.refl _ _).drew
    go_region_held3 (fun w' => w'.cell? ⟨N, 0, none⟩ = some (.slice a b.length cap) ∧ w'.cell? ⟨N, 1, none⟩ = some (.int .i64 p)) (with_reducible exact hk)
      ((go_at_call 76; refine (HC.out _ hBw).mono ?_; rintro r w2 ⟨rfl, hb2⟩; have hk := And.intro (cell_on hb2 hk.1) (cell_on hb2 hk.2); have hBw := below_then hBw hb2; clear hb2))
    have HB := Lib.hid hBw
    have h2 := HI.out.below hBw
    have HE := Lib.hid (h2.pos (q := p + n) (by have := HR.out.2.1 (by trivial); omega))
    have HG := Lib.hid (grown_then (grown_below hBw (some N)) (grown_set _ N 1 (.int .i64 ((p + n : Nat) : Int))))
    obtain ⟨v2', h2, -⟩ := h2
    obtain ⟨s0, s1, s2, s3⟩ := h2.reads
    obtain ⟨f1, f2⟩ := h2.free
    clear h2 hk hBw
    go_wp2_with fail
    go_ret
    exact ⟨⟨_, rfl, rfl⟩, HE.out, HG.out⟩
  · rw [if_neg he]
    have he' : ((e : Int) != 0) = true := by simp; omega
    go_enter Tryz.func75, Tryz.ntmps75
    go_wp2_with fail
    refine (HF.out).mono ?_; rintro r w1 ⟨rfl, rfl⟩
    go_upto_region 4 with fail
    have hk : w.drew.cell? ⟨N, 0, none⟩ = some (.slice a b.length cap) ∧ w.drew.cell? ⟨N, 1, none⟩ = some (.int .i64 p) := ⟨by simp [r0], by simp [r1]⟩
    have hBw : Below w.heap.size w w.drew := (Below.refl _ _).drew
    go_region_held3 (fun w' => w'.cell? ⟨N, 0, none⟩ = some (.slice a b.length cap) ∧ w'.cell? ⟨N, 1, none⟩ = some (.int .i64 p)) (with_reducible exact hk)
      ((go_at_call 76; refine (HC.out _ hBw).mono ?_; rintro r w2 ⟨rfl, hb2⟩; have hk := And.intro (cell_on hb2 hk.1) (cell_on hb2 hk.2); have hBw := below_then hBw hb2; clear hb2))
    have HB := Lib.hid hBw
    have h2 := HI.out.below hBw
    have HE := Lib.hid (h2.err e)
    have HG := Lib.hid (grown_then (grown_below hBw (some N)) (grown_set _ N 2 (.int .i64 e)))
    obtain ⟨v2', h2, -⟩ := h2
    obtain ⟨s0, s1, s2, s3⟩ := h2.reads
    obtain ⟨f1, f2⟩ := h2.free
    clear h2 hk hBw
    go_wp2_with fail
    go_ret
    exact ⟨⟨_, rfl, by rw [HR.out.2.2 he]; rfl⟩, HE.out, HG.out⟩
theorem readI_shut (w : World) (v f : Value) (e : Nat) (h : Shut v e w) :
    Calls Tryz.prog 75 #[v, f] w fun r w' => r = .returned (.int .i64 0) ∧ w = w' := by
  have HF := Lib.hid (h.2.2 w (Below.refl _ _))
  have he : ((e : Int) != 0) = true := by have := h.1; simp; omega
  clear h
  go_enter Tryz.func75, Tryz.ntmps75
  go_wp2_with fail
  refine (HF.out).mono ?_; rintro r w1 ⟨rfl, rfl⟩
  go_wp2_with fail
  go_ret
  exact ⟨rfl, rfl⟩
theorem fN_trip (r : Int × Nat) : Ending.returned (tripF r) = .returned (.tuple #[.float .f64 (if (fN r).2.2 = 0 then fromN (fN r).1 else 0), .int .i64 ((fN r).2.1 : Nat), .int .i64 ((fN r).2.2 : Nat)]) := by
  unfold tripF fN
  split
  · simp
  · simp
set_option maxHeartbeats 1000000 in
theorem readF_any (w : World) (N : Nat) (b : List Int) (p : Nat)  (h : InAt w N b p 0)  :
    Calls Tryz.prog 77 #[.pointer (some ⟨N, 0, none⟩), .func (.func 78) #[] #[]] w (ReadP (fun v _ => v = .float .f64 (if (fN (getF (b.drop p))).2.2 = 0 then fromN (fN (getF (b.drop p))).1 else 0)) w N b p (fN (getF (b.drop p))).2.1 (fN (getF (b.drop p))).2.2) := by
  have HF := Lib.hid (failed_any w N b p 0 h)
  have HI := Lib.hid h
  obtain ⟨v, h, hv, ht, hbt, hl, hp⟩ := h
  obtain ⟨r0, r1, -, -⟩ := h.reads
  have hv2 := hv
  obtain ⟨a, cap, rfl, -, -⟩ := hv2
  obtain ⟨u, c, hop, hi⟩ := tail_any hv hp
  have HC := Lib.hid (fun w1 (h : Below w.heap.size w w1) => show Calls Tryz.prog 78 #[_] w1 (fun e w' => e = .returned (.tuple #[.float .f64 (if (fN (getF (b.drop p))).2.2 = 0 then fromN (fN (getF (b.drop p))).1 else 0), .int .i64 ((fN (getF (b.drop p))).2.1 : Nat), .int .i64 ((fN (getF (b.drop p))).2.2 : Nat)]) ∧ Below w1.heap.size w1 w') from (pgetF_any _ (b.drop p) w1 (hi.below h) (hbt.drop p) (by simp; omega)).mono fun e w' ⟨h1, h2⟩ => ⟨by rw [h1, fN_trip], h2⟩)
  have HR := Lib.hid (fN_fit (b := b.drop p))
  have hdl : (b.drop p).length = b.length - p := by simp
  rw [hdl] at HR
  unfold ReadP
  generalize fN (getF (b.drop p)) = rr at *
  obtain ⟨x, n, e⟩ := rr
  try unfold tripF at HC
  simp only at HC HR
  have HY := Lib.hid (show (if e = 0 then fromN x else 0) = (if e = 0 then fromN x else 0) from rfl)
  have HZ := Lib.hid (fun (h : e ≠ 0) => show (if e = 0 then fromN x else 0) = 0 by rw [if_neg h])
  generalize (if e = 0 then fromN x else 0) = y at *
  clear h hv ht hi hdl
  by_cases he : e = 0
  · subst he
    rw [if_pos rfl]
    have i2 : IntKind.i64.wrap ((p : Int) + n) = ((p + n : Nat) : Int) := by have := HR.out.2.1 (by trivial); rw [IntWalk.i64_in _ (by omega)]; omega
    go_enter Tryz.func77, Tryz.ntmps77
    go_wp2_with fail
    refine (HF.out).mono ?_; rintro r w1 ⟨rfl, rfl⟩
    go_upto_region 4 with fail
    have hk : w.drew.cell? ⟨N, 0, none⟩ = some (.slice a b.length cap) ∧ w.drew.cell? ⟨N, 1, none⟩ = some (.int .i64 p) := ⟨by simp [r0], by simp [r1]⟩
    have hBw : Below w.heap.size w w.drew := (Below.refl _ _).drew
    go_region_held3 (fun w' => w'.cell? ⟨N, 0, none⟩ = some (.slice a b.length cap) ∧ w'.cell? ⟨N, 1, none⟩ = some (.int .i64 p)) (with_reducible exact hk)
      ((go_at_call 78; refine (HC.out _ hBw).mono ?_; rintro r w2 ⟨rfl, hb2⟩; have hk := And.intro (cell_on hb2 hk.1) (cell_on hb2 hk.2); have hBw := below_then hBw hb2; clear hb2))
    have HB := Lib.hid hBw
    have h2 := HI.out.below hBw
    have HE := Lib.hid (h2.pos (q := p + n) (by have := HR.out.2.1 (by trivial); omega))
    have HG := Lib.hid (grown_then (grown_below hBw (some N)) (grown_set _ N 1 (.int .i64 ((p + n : Nat) : Int))))
    obtain ⟨v2', h2, -⟩ := h2
    obtain ⟨s0, s1, s2, s3⟩ := h2.reads
    obtain ⟨f1, f2⟩ := h2.free
    clear h2 hk hBw
    go_wp2_with fail
    go_ret
    exact ⟨⟨_, rfl, rfl⟩, HE.out, HG.out⟩
  · rw [if_neg he]
    have he' : ((e : Int) != 0) = true := by simp; omega
    go_enter Tryz.func77, Tryz.ntmps77
    go_wp2_with fail
    refine (HF.out).mono ?_; rintro r w1 ⟨rfl, rfl⟩
    go_upto_region 4 with fail
    have hk : w.drew.cell? ⟨N, 0, none⟩ = some (.slice a b.length cap) ∧ w.drew.cell? ⟨N, 1, none⟩ = some (.int .i64 p) := ⟨by simp [r0], by simp [r1]⟩
    have hBw : Below w.heap.size w w.drew := (Below.refl _ _).drew
    go_region_held3 (fun w' => w'.cell? ⟨N, 0, none⟩ = some (.slice a b.length cap) ∧ w'.cell? ⟨N, 1, none⟩ = some (.int .i64 p)) (with_reducible exact hk)
      ((go_at_call 78; refine (HC.out _ hBw).mono ?_; rintro r w2 ⟨rfl, hb2⟩; have hk := And.intro (cell_on hb2 hk.1) (cell_on hb2 hk.2); have hBw := below_then hBw hb2; clear hb2))
    have HB := Lib.hid hBw
    have h2 := HI.out.below hBw
    have HE := Lib.hid (h2.err e)
    have HG := Lib.hid (grown_then (grown_below hBw (some N)) (grown_set _ N 2 (.int .i64 e)))
    obtain ⟨v2', h2, -⟩ := h2
    obtain ⟨s0, s1, s2, s3⟩ := h2.reads
    obtain ⟨f1, f2⟩ := h2.free
    clear h2 hk hBw
    go_wp2_with fail
    go_ret
    exact ⟨⟨_, rfl, by rw [HZ.out he]; rfl⟩, HE.out, HG.out⟩
theorem readF_shut (w : World) (v f : Value) (e : Nat) (h : Shut v e w) :
    Calls Tryz.prog 77 #[v, f] w fun r w' => r = .returned (.float .f64 0) ∧ w = w' := by
  have HF := Lib.hid (h.2.2 w (Below.refl _ _))
  have he : ((e : Int) != 0) = true := by have := h.1; simp; omega
  clear h
  go_enter Tryz.func77, Tryz.ntmps77
  go_wp2_with fail
  refine (HF.out).mono ?_; rintro r w1 ⟨rfl, rfl⟩
  go_wp2_with fail
  go_ret
  exact ⟨rfl, rfl⟩
end Go.Proofs.YtdnbjaeeebodkaaGreat
