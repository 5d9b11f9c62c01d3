/- What Root of package nat returns, where Div answers as it should. -/
import Derived.Test.YtpfcacjcikhamaaDoorNatq
import Derived.Deep.LoopGhost
namespace Go.Proofs.YtpfcacjcikhamaaDoor
set_option maxRecDepth 100000
open Go.RowKit
set_option linter.unusedVariables false
def IsRoot (A s : Int) : Prop := 0 ≤ s ∧ s * s ≤ A ∧ A < (s + 1) * (s + 1)
theorem sq_succ (x : Int) : (x + 1) * (x + 1) = x * x + 2 * x + 1 := by rw [Int.add_mul, Int.mul_add]; omega
theorem root_exists (A : Nat) : ∃ s, IsRoot A s := by
  induction A with
  | zero => exact ⟨0, by unfold IsRoot; decide⟩
  | succ n ih =>
    obtain ⟨s, h0, h1, h2⟩ := ih
    by_cases h : (n : Int) + 1 < (s + 1) * (s + 1)
    · exact ⟨s, h0, by omega, by omega⟩
    · refine ⟨s + 1, by omega, by omega, ?_⟩
      rw [sq_succ (s + 1)]; omega
/-- One step of Newton from above stays above, and one that doesn't fall has arrived. -/
theorem newton_above {A s r : Int} (hs : IsRoot A s) (hr : s ≤ r) (h0 : 0 < r) : s ≤ (r + A / r) / 2 := by
  obtain ⟨k0, k1, k2⟩ := hs
  have h1 : 2 * s - r ≤ A / r := by
    refine (Int.le_ediv_iff_mul_le h0).2 ?_
    have e : (r - s) * (r - s) = r * r - r * s - (s * r - s * s) := by rw [Int.sub_mul, Int.mul_sub, Int.mul_sub]
    have e2 : 0 ≤ (r - s) * (r - s) := Int.mul_nonneg (by omega) (by omega)
    have e3 : (2 * s - r) * r = 2 * (s * r) - r * r := by rw [Int.sub_mul, Int.mul_assoc]
    have e4 : r * s = s * r := Int.mul_comm _ _
    omega
  omega
theorem newton_stop {A s r : Int} (hs : IsRoot A s) (hr : s ≤ r) (h0 : 0 < r) (h : r ≤ (r + A / r) / 2) : r = s := by
  obtain ⟨k0, k1, k2⟩ := hs
  by_cases e : r = s
  · exact e
  · exfalso
    have h1 : r ≤ A / r := by omega
    have h2 : r * r ≤ A := (Int.le_ediv_iff_mul_le h0).1 h1
    have h3 : (s + 1) * (s + 1) ≤ r * r := Int.mul_le_mul (by omega) (by omega) (by omega) (by omega)
    omega
theorem root_pos {A s : Int} (hs : IsRoot A s) (hA : 0 < A) : 0 < s := by
  obtain ⟨k0, k1, k2⟩ := hs
  by_cases e : s = 0
  · subst e; simp at k2; omega
  · omega
theorem bits_lt {z : Int} (h0 : 0 < z) : z < 2 ^ bitsZ z := by
  obtain ⟨Z, rfl⟩ := Int.eq_ofNat_of_zero_le (Int.le_of_lt h0)
  have hz : (Z : Int) ≠ 0 := by omega
  rw [bitsZ, if_neg hz, Int.toNat_natCast]
  have := Nat.lt_log2_self (n := Z)
  have e : ((2 ^ (Nat.log2 Z + 1) : Nat) : Int) = (2 : Int) ^ (Nat.log2 Z + 1) := by simp
  omega
theorem bits_le {z : Int} (h0 : 0 < z) : 2 ^ (bitsZ z - 1) ≤ z := by
  obtain ⟨Z, rfl⟩ := Int.eq_ofNat_of_zero_le (Int.le_of_lt h0)
  have hz : (Z : Int) ≠ 0 := by omega
  rw [bitsZ, if_neg hz, Int.toNat_natCast, Nat.add_sub_cancel]
  have := Nat.log2_self_le (n := Z) (by omega)
  have e : ((2 ^ Nat.log2 Z : Nat) : Int) = (2 : Int) ^ Nat.log2 Z := by simp
  omega
theorem pow2_mono {m n : Nat} (h : m ≤ n) : (2 : Int) ^ m ≤ 2 ^ n := by
  have := Nat.pow_le_pow_right (n := 2) (by decide) h
  have e1 : ((2 ^ m : Nat) : Int) = (2 : Int) ^ m := by simp
  have e2 : ((2 ^ n : Nat) : Int) = (2 : Int) ^ n := by simp
  omega
theorem root_le_start {A s : Int} (hs : IsRoot A s) (hA : 0 < A) : s ≤ 2 ^ ((bitsZ A + 1) / 2) := by
  obtain ⟨k0, k1, k2⟩ := hs
  by_cases e : s ≤ 2 ^ ((bitsZ A + 1) / 2)
  · exact e
  · exfalso
    have h1 := bits_lt hA
    have h2 : (2 : Int) ^ bitsZ A ≤ 2 ^ ((bitsZ A + 1) / 2) * 2 ^ ((bitsZ A + 1) / 2) := by
      rw [← Int.pow_add]; exact pow2_mono (by omega)
    have h3 : (2 : Int) ^ ((bitsZ A + 1) / 2) * 2 ^ ((bitsZ A + 1) / 2) ≤ s * s := Int.mul_le_mul (by omega) (by omega) (Int.le_of_lt (Int.pow_pos (by decide))) (by omega)
    omega
theorem bitsZ_pos {z : Int} (h0 : 0 < z) : 0 < bitsZ z := by
  rw [bitsZ, if_neg (by omega)]; omega
theorem bits_words {a : List Int} (hd : Wd a) (h0 : 0 < wv a) : bitsZ (wv a) ≤ a.length * 32 := by
  have h1 := bits_le h0
  have h2 := (wv_range hd).2
  rw [pow32] at h2
  have h3 : bitsZ (wv a) - 1 < a.length * 32 := by
    by_cases e : bitsZ (wv a) - 1 < a.length * 32
    · exact e
    · have := pow2_mono (m := a.length * 32) (n := bitsZ (wv a) - 1) (by omega)
      omega
  have := bitsZ_pos h0
  omega
def RootPost (w : World) (A : Int) (e : Ending) (w' : World) : Prop := ∃ v s, e = .returned v ∧ IsNat w' v s ∧ IsRoot A s ∧ Below w.heap.size w w'
set_option maxHeartbeats 1000000 in
theorem root_any (u : Value) (a : List Int) (w : World) (hu : WList w u a) (la : a.length ≤ 1000000)
    (HDiv : ∀ w1 v b, WList w1 u a → WList w1 v b → 0 < wv b → wv b ≤ 2 ^ ((bitsZ (wv a) + 1) / 2) → Calls Tryd.prog 79 #[u, v] w1 (NatDivPost w1 (wv a / wv b) (wv a % wv b))) :
    Calls Tryd.prog 51 #[u] w (RootPost w (wv a)) := by
  have HU := Lib.hid hu
  have HDv := Lib.hid HDiv
  have HB := Lib.hid (bits_any u a w hu)
  have hA0 := (wv_range hu.2.1).1
  have hd := hu.2.1
  clear hu HDiv
  by_cases hz : wv a = 0
  · rw [hz] at HB
    rw [hz]
    go_enter Tryd.func51, Tryd.ntmps51
    go_wp2_with fail
    refine (HB.out).mono ?_; rintro e w' ⟨rfl, rfl⟩
    have e0 : bitsZ 0 = 0 := rfl
    rw [e0]
    go_wp2_with fail
    go_ret
    exact ⟨_, 0, rfl, isNat_zero, by unfold IsRoot; decide, Below.refl _ _⟩
  · have hA : 0 < wv a := by omega
    have hbp := bitsZ_pos hA
    have hbl := bits_words hd hA
    obtain ⟨s, hs⟩ := root_exists (wv a).toNat
    rw [Int.toNat_of_nonneg hA0] at hs
    have hst := root_le_start hs hA
    have hs0 := root_pos hs hA
    have hR0 : (2 : Int) ^ ((bitsZ (wv a) + 1) / 2) ≤ 4294967296 ^ a.length := by
      rw [pow32]; exact pow2_mono (by omega)
    have hAr := (wv_range hd).2
    have HS := Lib.hid (And.intro hs (And.intro hst (And.intro hs0 (And.intro hR0 hAr))))
    have hb : bitsZ (wv a) ≤ 40000000 := by omega
    generalize hLb : bitsZ (wv a) = L at *
    generalize hAA : wv a = A at *
    clear hd hs hst hs0 hR0 hAr hz hA0 hLb
    have hone : ∀ W : World, WList (W.alloc (.cells #[.int .u32 1] 31)) (.slice (some ⟨W.heap.size, 0, none⟩) 1 1) [1] := fun W =>
      ⟨⟨_, 1, rfl, by simp, .inr ⟨W.heap.size, 0, rfl, by simp, fun i hi => by simp at hi; subst hi; simp [go_sem]⟩⟩, by intro x hx; simp at hx; omega, by simp⟩
    have HRz := Lib.hid (fun W : World => raise_any _ [1] _ (hone W) (by decide) ((L + 1) / 2) ((L + 1) / 2 / 32) ((L + 1) / 2 % 32) (by omega) (by omega) (by omega))
    have hval : wv [1] * (2 ^ ((L + 1) / 2 % 32) * 4294967296 ^ ((L + 1) / 2 / 32)) = 2 ^ ((L + 1) / 2) := by
      rw [pow32, ← Int.pow_add]
      have e : wv [1] = 1 := rfl
      rw [e, Int.one_mul]; congr 1; omega
    rw [hval] at HRz
    have HAA := Lib.hid hAA
    clear hval hone hAA
    obtain ⟨N, hN⟩ : ∃ N, (L + 1) / 2 = N := ⟨_, rfl⟩
    rw [hN] at HRz HS HDv
    have hdv : ((L : Int) + 1) / 2 = (N : Int) := by omega
    have hN1 : N ≤ 40000000 := by omega
    clear hN
    go_enter Tryd.func51, Tryd.ntmps51
    go_wp2_with fail
    refine (HB.out).mono ?_; rintro e w' ⟨rfl, rfl⟩
    go_wp2_with fail
    refine (HRz.out w).mono ?_; rintro e w1 ⟨out, rfl, hF, hd1, hl, hv⟩
    have hlm : [(1 : Int)].length + N / 32 + 1 ≤ 2000000 := by simp; omega
    generalize [(1 : Int)].length + N / 32 + 1 = M at *
    have hW := Lib.hid (hF.1.wlist hd1 (by omega))
    have HSg := Lib.hid (sig_any _ _ _ _ _ hW.out.1 (by omega))
    rw [hl] at HSg
    simp only [World.size_alloc] at HSg hW
    have HF := Lib.hid hF
    have HV := Lib.hid hv
    clear hF hd1 hl hv
    go_wp2_with fail
    refine (HSg.out).mono ?_; rintro e w' ⟨u1, m, rfl, hc, rfl⟩
    have hw := hc.wlist hW.out
    have hR1 := Lib.hid (⟨_, hw.1, hw.2.2, hw.2.1.trans HV.out⟩ : IsNat w1 u1 (2 ^ N))
    have hB1 := Lib.hid ((below_one w _).trans (HF.out.2.mono (by simp)))
    clear hc hw hW HSg HF HV hdv
    go_wp2_with fail
    go_loopg [4] (2 ^ N : Int).toNat (fun k r wr => ∃ (z : Int) (rv : Value), rv = r ∧ z.toNat = k ∧ IsNat wr rv z ∧ s ≤ z ∧ z ≤ 2 ^ N ∧ Below w.heap.size w wr)
    case atStart => exact ⟨2 ^ N, _, rfl, rfl, hR1.out, HS.out.2.1, Int.le_refl _, hB1.out⟩
    case round =>
      obtain ⟨z, r, rfl, hk, hr, hs1, hs2, hbw⟩ := hrel
      obtain ⟨b, hb1, hb2, hb3⟩ := hr
      have hz0 : 0 < z := by have := HS.out.2.2.1; omega
      have hA0 : 0 ≤ A := by omega
      have hq0 : 0 ≤ A / z := Int.ediv_nonneg hA0 (by omega)
      have hqA : A / z ≤ A := Int.ediv_le_self _ hA0
      have hbl1 : b.length ≤ a.length + 1 := by
        refine hb2.wlen hb1.2.1 ?_
        have h1 := q_mono (m := a.length) (n := a.length + 1) (by omega)
        have h2 := HS.out.2.2.2.1
        have h3 := q_succ a.length
        have h4 := q_pos a.length
        rw [hb3]; omega
      have HDz := Lib.hid (HDv.out wr r b (HU.out.below hbw) hb1 (by omega) (by omega))
      rw [hb3] at HDz
      have HX := Lib.hid (And.intro hb1 (And.intro hb3 (And.intro hbl1 hb2)))
      have HBw := Lib.hid hbw
      clear hb1 hb2 hb3 hbl1 hbw hR1 hB1
      go_wp2_with fail
      refine (HDz.out).mono ?_; rintro e w2 ⟨v1, v2, rfl, ⟨q, hq1, hq2, hq3⟩, -, hb2⟩
      have hql : q.length ≤ a.length := by
        refine hq2.wlen hq1.2.1 ?_
        have := HS.out.2.2.2.2
        rw [hq3]; omega
      have HAdd := Lib.hid (add_any r v1 b q w2 (HX.out.1.below hb2) hq1 (by have := HX.out.2.2.1; omega) (by omega))
      rw [HX.out.2.1, hq3] at HAdd
      have HB2 := Lib.hid hb2
      have hmx : Hid (max b.length q.length + 1 ≤ a.length + 2) := Lib.hid (by have := HX.out.2.2.1; omega)
      clear hq1 hq2 hq3 hb2 hql HDz
      go_wp2_with fail
      refine (HAdd.out).mono ?_; rintro e w3 ⟨v3, x, rfl, hFx⟩
      have hN3 := Fresh.isNat ⟨v3, x, rfl, hFx⟩ (by have := hmx.out; omega)
      obtain ⟨⟨y, hy1, hy2, hy3⟩, hb3⟩ := hN3
      have hyl : y.length ≤ 274877906944 := by
        have := hy2.wlen hy1.2.1 (n := a.length + 1) (by
          have h2 := HS.out.2.2.2.1
          have h4 := HS.out.2.2.2.2
          have h3 := q_succ a.length
          rw [hy3]; omega)
        omega
      have HShr := Lib.hid (shr_any v3 y w3 hy1 hyl 1 1 (by decide) (by decide))
      rw [hy3, show (2 : Int) ^ 1 = 2 from rfl] at HShr
      have HY := Lib.hid hyl
      have HB3 := Lib.hid hb3
      clear hFx hy1 hy2 hy3 hb3 hyl HAdd
      have hnx := Lib.hid (newton_above HS.out.1 hs1 hz0)
      have hns := Lib.hid (newton_stop HS.out.1 hs1 hz0)
      generalize (z + A / z) / 2 = t at *
      go_wp2_with fail
      refine (HShr.out).mono ?_; rintro e w4 ⟨v4, x4, rfl, hFx⟩
      have hN4 := Fresh.isNat ⟨v4, x4, rfl, hFx⟩ (by have := HY.out; omega)
      obtain ⟨⟨g, hg1, hg2, hg3⟩, hb4⟩ := hN4
      have hb24 := HB2.out.trans ((HB3.out.trans (hb4.mono HB3.out.size)).mono HB2.out.size)
      have HCm := Lib.hid (cmp_any v4 r g b w4 hg1 (HX.out.1.below hb24))
      rw [hg3, HX.out.2.1] at HCm
      have HG := Lib.hid (⟨g, hg1, hg2, hg3⟩ : IsNat w4 v4 t)
      have hB4 := Lib.hid (HBw.out.trans (hb24.mono HBw.out.size))
      have HZ := Lib.hid (IsNat.below (w := wr) (z := z) ⟨b, HX.out.1, HX.out.2.2.2, HX.out.2.1⟩ hb24)
      clear hFx hg1 hg2 hg3 hb4 hb24 HShr HB2 HB3 hmx HX
      by_cases hc : z ≤ t
      · have hcm : 0 ≤ cmpI t z := cmpI_ge.2 hc
        generalize cmpI t z = cm at *
        go_wp2_with fail
        refine (HCm.out).mono ?_; rintro e w5 ⟨rfl, nd, rfl⟩
        go_wp2_with fail
        go_ret
        have hbd := below_drewN (Below.refl w4.heap.size w4) nd
        exact ⟨_, z, rfl, IsNat.below (w := w4) (z := z) HZ.out hbd, by rw [hns.out hc]; exact HS.out.1, hB4.out.trans (hbd.mono hB4.out.size)⟩
      · have hcm : ¬ 0 ≤ cmpI t z := fun h => hc (cmpI_ge.1 h)
        generalize cmpI t z = cm at *
        go_wp2_with fail
        refine (HCm.out).mono ?_; rintro e w5 ⟨rfl, nd, rfl⟩
        have hbd := below_drewN (Below.refl w4.heap.size w4) nd
        have HG5 := Lib.hid (IsNat.below (w := w4) (z := t) HG.out hbd)
        have HB5 := Lib.hid (hB4.out.trans (hbd.mono hB4.out.size))
        clear hbd HG hB4
        go_wp2_with fail
        go_roundg t.toNat
        case measure => omega
        case rel => exact ⟨t, _, rfl, rfl, HG5.out, hnx.out, by omega, HB5.out⟩
end Go.Proofs.YtpfcacjcikhamaaDoor
