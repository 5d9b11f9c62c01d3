/- The reference of layer 2: is a list the trim one of a number; how many bits; powers of two. -/
import Derived.Test.YtpfcacjcikhamaaDoorNumw
import Derived.Deep.RegionHeld3
namespace Go.Proofs.YtpfcacjcikhamaaDoor
set_option maxRecDepth 100000
open Go.RowKit
set_option linter.unusedVariables false
set_option maxHeartbeats 1000000 in
theorem two_num (n : Int) (N : Nat) (hn : Hid (n = (N : Int))) (w : World) (hN : N ≤ 1000000) : Calls Tryd.prog 16 #[.int .i64 n] w (MadeNum w (2 ^ N)) := by
  have hk0 := Lib.hid (Kept.start w (.bool false) (.slice none 0 0) 28)
  go_enter Tryd.func16, Tryd.ntmps16
  go_wp2_with fail
  refine (nat_any 2 _ (by decide) (by decide)).mono ?_; rintro e w1 ⟨q, rfl, hq, hb1⟩
  have HP := Lib.hid (num_power 8 N q 2 n N w1 (Nat.le_refl _) hn (by omega) (by omega) hq (sized8 (by decide) (by decide)))
  have HK := Lib.hid (hk0.out.call hb1)
  clear hk0 hb1 hq
  go_wp2_with fail
  refine (HP.out).mono ?_; rintro e w2 ⟨r, rfl, hr, hb2⟩
  have hk := HK.out.call hb2
  obtain ⟨rn, rp, rl, rc, rfl⟩ := hr.shape
  obtain ⟨⟨x1, hx1⟩, ⟨y1, hy1⟩, hf1, hf2⟩ := hk.cells
  have hN2 := hk.num hr
  have hE := (hk.store (.bool rn) (.slice rp rl rc)).1
  clear hk hr hb2 HK HP
  go_wp2_with fail
  exact bodyPost_ret (v := .agg #[.bool rn, .slice rp rl rc]) (by simp [results, Tryd.results16, go_sem, hx1, hy1]) rfl ⟨_, rfl, hN2, hE⟩
/-- What the two calls of Is ask. -/
def IsFacts (w : World) (u : Value) (z : Int) : Prop := ∀ w1, Below w.heap.size w w1 → Calls Tryd.prog 12 #[u] w1 (MadeNum w1 z)
theorem is_cmp {z : Int} {n : Nat} (hs : Sized n z) (hn : n ≤ 1099511627770) (w1 : World) (p q : Value) (hp : IsNum w1 p z) (hq : IsNum w1 q z) : Calls Tryd.prog 15 #[p, q] w1 (Compared w1 0) := by
  have := num_cmp p q z z n w1 hp hq hs hs hn
  rwa [cmpI_eq rfl] at this
set_option maxHeartbeats 1000000 in
theorem isw_nil (p : Option Addr) (c : Nat) (v : Value) (z : Int) (n : Nat) (w : World) (hf : IsFacts w (.slice p 0 c) z) (hs : Sized n z) (hn : n ≤ 1099511627770) (hv : IsNum w v z) :
    Calls Tryd.prog 18 #[.slice p 0 c, v] w fun e w' => e = .returned (.bool true) ∧ Below w.heap.size w w' := by
  have HF := Lib.hid hf
  have HC := Lib.hid (fun w1 p q hp hq => is_cmp hs hn w1 p q hp hq)
  obtain ⟨nb, np, nl, nc, rfl⟩ := hv.shape
  have hB0 := below_one w (.cells #[.bool nb, .slice np nl nc] 28)
  have HV := Lib.hid (hv.below hB0)
  have hx : (w.alloc (.cells #[.bool nb, .slice np nl nc] 28)).cell? ⟨w.heap.size, 0, none⟩ = some (.bool nb) := by simp [go_sem]
  have hy : (w.alloc (.cells #[.bool nb, .slice np nl nc] 28)).cell? ⟨w.heap.size, 1, none⟩ = some (.slice np nl nc) := by simp [go_sem]
  have hB := Lib.hid hB0
  clear hv hf hs hB0
  go_enter Tryd.func18, Tryd.ntmps18
  go_wp2_with fail
  generalize w.alloc (.cells #[.bool nb, .slice np nl nc] 28) = W at *
  have hBd : Below W.heap.size W W.drew := (Below.refl _ _).drew
  first
    | go_region_with (first
        | (go_at_call 12; refine (HF.out _ (hB.out.trans (hBd.mono hB.out.size))).mono ?_; rintro e w1 ⟨q, rfl, hq, hb1⟩; replace hb1 := below_drew' hb1; have hx1 := cell_later hb1 hx; have hy1 := cell_later hb1 hy)
        | (go_at_call 15; refine (HC.out _ _ _ hq (HV.out.below hb1)).mono ?_; rintro e w2 ⟨rfl, hb2⟩; have hb12 := hb1.trans (hb2.mono hb1.size)))
    | fail
  all_goals
    go_wp2_with fail
    go_ret
    exact ⟨ret_bool (by simp), hB.out.trans (hb12.mono hB.out.size)⟩
set_option maxHeartbeats 1000000 in
theorem isw_cons (b o L c : Nat) (x : Int) (v : Value) (z : Int) (n : Nat) (w : World) (hL : 0 < L) (hL2 : L ≤ 1000000) (hc : w.cell? ⟨b, o + (L - 1), none⟩ = some (.int .u32 x)) (hx0 : x ≠ 0) (hf : IsFacts w (.slice (some ⟨b, o, none⟩) L c) z) (hs : Sized n z) (hn : n ≤ 1099511627770) (hv : IsNum w v z) :
    Calls Tryd.prog 18 #[.slice (some ⟨b, o, none⟩) L c, v] w fun e w' => e = .returned (.bool true) ∧ Below w.heap.size w w' := by
  have HF := Lib.hid hf
  have HC := Lib.hid (fun w1 p q hp hq => is_cmp hs hn w1 p q hp hq)
  obtain ⟨nb, np, nl, nc, rfl⟩ := hv.shape
  have hB0 := below_one w (.cells #[.bool nb, .slice np nl nc] 28)
  have HV := Lib.hid (hv.below hB0)
  have hx : (w.alloc (.cells #[.bool nb, .slice np nl nc] 28)).cell? ⟨w.heap.size, 0, none⟩ = some (.bool nb) := by simp [go_sem]
  have hy : (w.alloc (.cells #[.bool nb, .slice np nl nc] 28)).cell? ⟨w.heap.size, 1, none⟩ = some (.slice np nl nc) := by simp [go_sem]
  obtain ⟨m, rfl⟩ : ∃ m, L = m + 1 := ⟨L - 1, by omega⟩
  rw [Nat.add_sub_cancel] at hc
  have hc := cell_later hB0 hc
  have hB := Lib.hid hB0
  have h01 : ((((m + 1 : Nat)) : Int) == 0) = false := by simp; omega
  have h02 : (((m : Int) + 1) == 0) = false := by simp; omega
  have hx1 : (x != 0) = true := by simpa using hx0
  have hi0 : (0 : Int) ≤ (m : Int) := by omega
  have hi1 : (m : Int) < (m : Int) + 1 := by omega
  have hw2 : IntKind.i64.wrap (m : Int) = (m : Int) := IntWalk.i64_in _ (by omega)
  have hw1 : IntKind.i64.wrap ((m : Int) + 1 - 1) = (m : Int) := (IntWalk.i64_in _ (by omega)).trans (by omega)
  clear hv hf hs hB0 hx0 hL
  go_enter Tryd.func18, Tryd.ntmps18
  go_wp2_with fail
  generalize w.alloc (.cells #[.bool nb, .slice np nl nc] 28) = W at *
  have hBd : Below W.heap.size W W.drew := (Below.refl _ _).drew
  have hk : W.drew.cell? ⟨w.heap.size, 0, none⟩ = some (.bool nb) ∧ W.drew.cell? ⟨w.heap.size, 1, none⟩ = some (.slice np nl nc) ∧ W.drew.cell? ⟨b, o + m, none⟩ = some (.int .u32 x) := ⟨by simp [hx], by simp [hy], by simp [hc]⟩
  go_region_held3 (fun w' => w'.cell? ⟨w.heap.size, 0, none⟩ = some (.bool nb) ∧ w'.cell? ⟨w.heap.size, 1, none⟩ = some (.slice np nl nc) ∧ w'.cell? ⟨b, o + m, none⟩ = some (.int .u32 x))
    (with_reducible exact hk)
    (first
    | (go_at_call 12; refine (HF.out _ (hB.out.trans (hBd.mono hB.out.size))).mono ?_; rintro e w1 ⟨q, rfl, hq, hb1⟩; have hk := And.intro (cell_later hb1 hk.1) (And.intro (cell_later hb1 hk.2.1) (cell_later hb1 hk.2.2)); have hBd := hBd.trans (hb1.mono hBd.size))
    | (go_at_call 15; refine (HC.out _ _ _ hq (HV.out.below hBd)).mono ?_; rintro e w2 ⟨rfl, hb2⟩; have hk := And.intro (cell_later hb2 hk.1) (And.intro (cell_later hb2 hk.2.1) (cell_later hb2 hk.2.2)); have hBd := hBd.trans (hb2.mono hBd.size)))
  all_goals
    go_wp2_with fail
    go_ret
    exact ⟨ret_bool (by simp), hB.out.trans (hBd.mono hB.out.size)⟩
theorem isw_yes (u v : Value) (a : List Int) (z : Int) (w : World) (hu : WList w u a) (la : a.length ≤ 1000000) (ht : Tidy a) (hz : wv a = z) (hv : IsNum w v z) :
    Calls Tryd.prog 18 #[u, v] w fun e w' => e = .returned (.bool true) ∧ Below w.heap.size w w' := by
  subst hz
  have hs := sized_words (wv_range hu.2.1).1 (wv_range hu.2.1).2
  have hF : IsFacts w u (wv a) := fun w1 hb => num_words u a w1 (hu.below hb) la
  obtain ⟨p, c, rfl⟩ := hu.shape
  by_cases h0 : a.length = 0
  · rw [h0] at hF ⊢
    exact isw_nil p c v _ _ w hF hs (by omega) hv
  · obtain ⟨b, o, rfl, _, hc⟩ := hu.1.cell (i := a.length - 1) (by omega)
    exact isw_cons b o a.length c _ v _ _ w (by omega) la hc (ht.resolve_left (by intro e; subst e; exact h0 rfl)) hF hs (by omega) hv
theorem isw_nat (u v : Value) (z : Int) (n : Nat) (w : World) (hu : IsNat w u z) (hz : z < 4294967296 ^ n) (hn : n ≤ 1000000) (hv : IsNum w v z) :
    Calls Tryd.prog 18 #[u, v] w fun e w' => e = .returned (.bool true) ∧ Below w.heap.size w w' := by
  obtain ⟨a, h1, h2, h3⟩ := hu
  exact isw_yes u v a z w h1 (by have := h2.wlen h1.2.1 (n := n) (by rw [h3]; exact hz); omega) h2 h3 hv
end Go.Proofs.YtpfcacjcikhamaaDoor
