/- What the reference of layer 2 makes of a list of words: its number; and whether a list is the trim one of a number. -/
import Derived.Test.YtflhicfbojmjbaaDoorNatv
import Derived.Test.YtflhicfbojmjbaaDoorPower
import Derived.Deep.RegionWith
namespace Go.Proofs.YtflhicfbojmjbaaDoor
set_option maxRecDepth 100000
open Go.RowKit
set_option linter.unusedVariables false
theorem below_drew' {w w' : World} (h : Below w.drew.heap.size w.drew w') : Below w.heap.size w w' := (Below.refl _ _).drew.trans h
/-- A variable that holds a number. -/
def NumBox (w : World) (N : Nat) (z : Int) (wr : World) : Prop :=
  (∃ x y, wr.cell? ⟨N, 0, none⟩ = some x ∧ wr.cell? ⟨N, 1, none⟩ = some y ∧ IsNum wr (.agg #[x, y]) z) ∧ Kept w N 30 wr
theorem set_cells' {w w1 : World} {N : Nat} {T : TypeId} (h : Kept w N T w1) (u v : Value) :
    ((w1.setCell ⟨N, 0, none⟩ u).setCell ⟨N, 1, none⟩ v).cell? ⟨N, 0, none⟩ = some u ∧ ((w1.setCell ⟨N, 0, none⟩ u).setCell ⟨N, 1, none⟩ v).cell? ⟨N, 1, none⟩ = some v := by
  obtain ⟨h1, h2, x, y, h3⟩ := h
  have h4 := set_two (u := u) (v := v) h3
  exact ⟨by simp [World.cell?, h4], by simp [World.cell?, h4]⟩
theorem box_store {w w2 : World} {N : Nat} {u s : Value} {z : Int} (hk : Kept w N 30 w2) (hq : IsNum w2 (.agg #[u, s]) z) : NumBox w N z ((w2.setCell ⟨N, 0, none⟩ u).setCell ⟨N, 1, none⟩ s) :=
  ⟨⟨u, s, (set_cells' hk u s).1, (set_cells' hk u s).2, hk.num hq⟩, hk.store u s⟩
theorem Kept.far {w w1 : World} {R N : Nat} {T : TypeId} (h : Kept w R T w1) (hne : R ≠ N) (hN : w.heap.size ≤ N) (u v : Value) : Kept w R T ((w1.setCell ⟨N, 0, none⟩ u).setCell ⟨N, 1, none⟩ v) := by
  obtain ⟨h1, h2, x, y, h3⟩ := h
  refine ⟨(h1.setCell hN u).setCell hN v, h2, x, y, ?_⟩
  rw [Below.heap_setCell _ _ _ _ hne, Below.heap_setCell _ _ _ _ hne]; exact h3
theorem NumBox.call {w w1 w2 : World} {N : Nat} {z : Int} (h : NumBox w N z w1) (hb : Below w1.heap.size w1 w2) : NumBox w N z w2 := by
  obtain ⟨⟨x, y, h1, h2, h3⟩, h4⟩ := h
  exact ⟨⟨x, y, cell_later hb h1, cell_later hb h2, h3.below hb⟩, h4.call hb⟩
theorem NumBox.cells {w w1 : World} {N : Nat} {z : Int} (h : NumBox w N z w1) : ∃ nb np nl nc, w1.cell? ⟨N, 0, none⟩ = some (.bool nb) ∧ w1.cell? ⟨N, 1, none⟩ = some (.slice np nl nc) ∧ IsNum w1 (.agg #[.bool nb, .slice np nl nc]) z := by
  obtain ⟨⟨x, y, h1, h2, h3⟩, h4⟩ := h
  obtain ⟨nb, np, nl, nc, e⟩ := h3.shape
  simp only [Value.agg.injEq, Array.mk.injEq, List.cons.injEq, and_true] at e
  obtain ⟨rfl, rfl⟩ := e
  exact ⟨nb, np, nl, nc, h1, h2, h3⟩
theorem isNum_zero {w : World} : IsNum w (.agg #[.bool false, .slice none 0 0]) 0 := ⟨false, _, [], rfl, ⟨none, 0, rfl, by simp, .inl rfl⟩, Typed.none, Dig.nil, .inl rfl, (fun e => by cases e), rfl⟩
theorem q_sized (n : Nat) : (4294967296 : Int) ^ n ≤ 1000 ^ (4 * n) := by
  have : (4294967296 : Nat) ^ n ≤ (1000 ^ 4) ^ n := Nat.pow_le_pow_left (by decide) n
  rw [← Nat.pow_mul] at this
  have e1 : ((4294967296 ^ n : Nat) : Int) = (4294967296 : Int) ^ n := by simp
  have e2 : ((1000 ^ (4 * n) : Nat) : Int) = (1000 : Int) ^ (4 * n) := by simp
  omega
theorem sized_words {z : Int} {n : Nat} (h0 : 0 ≤ z) (h1 : z < 4294967296 ^ n) : Sized (4 * n) z := by
  have := q_sized n
  have := p_pos (4 * n)
  unfold Sized
  omega
theorem sized_word {x : Int} (h0 : 0 ≤ x) (h1 : x ≤ 4294967296) (n : Nat) : Sized (4 * n + 4) x := by
  have h2 := p_mono (m := 4) (n := 4 * n + 4) (by omega)
  have e : (1000 : Int) ^ 4 = 1000000000000 := by decide
  unfold Sized
  omega
theorem drop_val {a : List Int} {n : Nat} (hn : n < a.length) (x : Int) (hx : a.getD n 0 = x) : wv (a.drop n) = wv (a.drop (n + 1)) * 4294967296 + x := by
  have := wv_head (a := a.drop n) (by rw [List.length_drop]; omega)
  have e : (a.drop n).getD 0 0 = x := by rw [← hx]; simp [List.getD]
  rw [this, e, List.drop_drop]; omega
theorem drop_lt {a : List Int} (hd : Wd a) (n : Nat) : 0 ≤ wv (a.drop n) ∧ wv (a.drop n) < 4294967296 ^ a.length := by
  have h1 := wv_range (hd.drop n)
  have h2 := q_mono (m := (a.drop n).length) (n := a.length) (by rw [List.length_drop]; omega)
  omega
set_option maxHeartbeats 2000000 in
theorem num_words (v : Value) (a : List Int) (w : World) (hv : WList w v a) (la : a.length ≤ 1000000) :
    Calls Tryd.prog 19 #[v] w (MadeNum w (wv a)) := by
  have HV := Lib.hid hv
  obtain ⟨p, c, rfl⟩ := hv.shape
  clear hv
  have HR0 := Lib.hid (And.intro ((Kept.start w (.bool false) (.slice none 0 0) 30).call (below_one _ (.cells #[.bool false, .slice none 0 0] 30)))
    (And.intro (⟨_, _, by simp [go_sem], by simp [go_sem], isNum_zero⟩ : ∃ x y, ((w.alloc (.cells #[.bool false, .slice none 0 0] 30)).alloc (.cells #[.bool false, .slice none 0 0] 30)).cell? ⟨w.heap.size + 1, 0, none⟩ = some x ∧ ((w.alloc (.cells #[.bool false, .slice none 0 0] 30)).alloc (.cells #[.bool false, .slice none 0 0] 30)).cell? ⟨w.heap.size + 1, 1, none⟩ = some y ∧ IsNum ((w.alloc (.cells #[.bool false, .slice none 0 0] 30)).alloc (.cells #[.bool false, .slice none 0 0] 30)) (.agg #[x, y]) 0)
      (by have := Kept.start (w.alloc (.cells #[.bool false, .slice none 0 0] 30)) (.bool false) (.slice none 0 0) 30; simp only [World.size_alloc] at this; exact this.down (below_one w _))))
  go_enter Tryd.func19, Tryd.ntmps19
  go_wp2_with fail
  go_loopw [4] (fun i wr => ∃ (m : Nat) (z : Int), Hid (z = (m : Int) - 1) ∧ -1 ≤ z ∧ z ≤ 1000000 ∧ m ≤ a.length ∧ i = .int .i64 z ∧ Hid (Kept w w.heap.size 30 wr ∧ NumBox w (w.heap.size + 1) (wv (a.drop m)) wr)) (fun i _ => (intOf i + 1).toNat)
  case atStart => exact ⟨a.length, _, Lib.hid rfl, by omega, by omega, Nat.le_refl _, rfl, Lib.hid ⟨HR0.out.1, by rw [List.drop_length]; exact HR0.out.2.1, HR0.out.2.2⟩⟩
  case round =>
    obtain ⟨m, z, hz, hz1, hz2, hm, rfl, hS⟩ := hrel
    clear HR0
    by_cases h0 : 0 ≤ z
    · obtain ⟨n, rfl⟩ : ∃ n, m = n + 1 := ⟨m - 1, by have := hz.out; omega⟩
      have hzn : z = (n : Int) := by have := hz.out; omega
      clear hz
      subst hzn
      obtain ⟨nb, np, nl, nc, hx, hy, hnum⟩ := hS.out.2.cells
      obtain ⟨b1, o1, hp1, hb1, hc⟩ := HV.out.1.cell (i := n) hm
      subst hp1
      have hc := cell_later hS.out.1.1 hc
      have hi0 : (0 : Int) ≤ (n : Int) := by omega
      have hi1 : (n : Int) < (a.length : Int) := by omega
      have dx := HV.out.2.1.getD n
      have hdv := Lib.hid (fun (x : Int) (hx : a.getD n 0 = x) => drop_val hm x hx)
      have hr1 := drop_lt HV.out.2.1 n
      have hr2 := drop_lt HV.out.2.1 (n + 1)
      generalize a.getD n 0 = x at *
      have hdv2 := Lib.hid (hdv.out x rfl)
      clear hdv
      have e6 : IntKind.u64.wrap x = x := by rw [IntKind.wrap_u64]; omega
      have HRg := Lib.hid (And.intro hr1 hr2)
      generalize wv (a.drop (n + 1)) = H at *
      have HN := Lib.hid hnum
      have HM := Lib.hid (fun w1 q (hb : Below wr.heap.size wr w1) (hq : IsNum w1 q 4294967296) => num_mul _ q H 4294967296 (4 * a.length + 4) w1 (HN.out.below hb) hq ((sized_words HRg.out.2.1 HRg.out.2.2).mono (by omega)) (sized_word (by decide) (by decide) _) (by omega))
      have HA := Lib.hid (fun w1 q y (hq : IsNum w1 q (H * 4294967296)) (hy : IsNum w1 y x) => num_add q y (H * 4294967296) x (4 * a.length + 4) w1 hq hy ((sized_words (n := a.length) (by have := HRg.out.2.1; omega) (by have := hdv2.out; have := HRg.out.1.2; omega)).mono (by omega)) (sized_word dx.1 (by omega) _) (by omega))
      obtain ⟨x0, x1⟩ := dx
      clear hnum hr1 hr2 hb1
      go_wp2_with fail
      go_region_with (first
        | (go_at_call_of 36 (4294967296 : Int); refine (nat_any 4294967296 _ (by decide) (by decide)).mono ?_; rintro e w1 ⟨q, rfl, hq, hb1⟩; replace hb1 := below_drew' hb1; have hx1 := cell_later hb1 hx; have hy1 := cell_later hb1 hy; have hc1 := cell_later hb1 hc)
        | (go_at_call 35; refine (HM.out _ _ hb1 hq).mono ?_; rintro e w2 ⟨mm, rfl, hmm, hb2⟩; have hc2 := cell_later hb2 hc1)
        | (go_at_call 36; refine (nat_any x _ x0 (by omega)).mono ?_; rintro e w3 ⟨y, rfl, hyy, hb3⟩)
        | (go_at_call 30; refine (HA.out _ _ _ (hmm.below hb3) hyy).mono ?_; rintro e w4 ⟨r, rfl, hr, hb4⟩; have hb14 := hb1.trans ((hb2.trans ((hb3.trans (hb4.mono hb3.size)).mono hb2.size)).mono hb1.size); have hk4 := hS.out.2.2.call hb14; have hR4 := hS.out.1.call hb14; obtain ⟨rn, rp, rl, rc, rfl⟩ := hr.shape; obtain ⟨⟨x2, hx2⟩, ⟨y2, hy2⟩, hf1, hf2⟩ := hk4.cells))
      all_goals
        have hB := Lib.hid (box_store hk4 hr)
        have hR5 := Lib.hid (hR4.far (N := w.heap.size + 1) (by omega) (by omega) (.bool rn) (.slice rp rl rc))
        rw [← hdv2.out] at hB
        clear hk4 hR4 hr hb14 hb1 hb2 hb3 hb4 hq hmm hyy hx1 hy1 hc1 hc2 hx2 hy2 hf1 hf2 hx hy hc HM HA HN hS HRg
        go_wp2_with fail
        go_roundw
        case rel => exact ⟨n, _, Lib.hid rfl, by omega, by omega, by omega, by go_num, Lib.hid ⟨hR5.out, hB.out⟩⟩
        case measure => simp [intOf]
    · obtain rfl : m = 0 := by have := hz.out; omega
      obtain ⟨nb, np, nl, nc, hx, hy, hnum⟩ := hS.out.2.cells
      rw [List.drop_zero] at hnum
      have hk := hS.out.1
      obtain ⟨⟨x1, hx1⟩, ⟨y1, hy1⟩, hf1, hf2⟩ := hk.cells
      have hN := Lib.hid (hk.num hnum)
      have hE := Lib.hid ((hk.store (.bool nb) (.slice np nl nc)).1)
      clear hS hnum hk
      go_wp2_with fail
      exact bodyPost_ret (v := .agg #[.bool nb, .slice np nl nc]) (by simp [results, Tryd.results19, go_sem, hx1, hy1]) rfl ⟨_, rfl, hN.out, hE.out⟩
end Go.Proofs.YtflhicfbojmjbaaDoor
