/- What Div of package nat returns, of a divisor of at most one word and of one that is greater than the number. -/
import Derived.Test.YtpfcacjcikhamaaDoorNatp
namespace Go.Proofs.YtpfcacjcikhamaaDoor
set_option maxRecDepth 100000
open Go.RowKit
set_option linter.unusedVariables false
def NatDivPost (w : World) (x y : Int) (e : Ending) (w' : World) : Prop := ∃ v1 v2, e = .returned (.tuple #[v1, v2, .bool true]) ∧ IsNat w' v1 x ∧ IsNat w' v2 y ∧ Below w.heap.size w w'
def NatDivNone (w : World) (e : Ending) (w' : World) : Prop := e = .returned (.tuple #[.slice none 0 0, .slice none 0 0, .bool false]) ∧ Below w.heap.size w w'
theorem IsNat.own {w : World} {B : Nat} {v : Value} {a : List Int} (h : w.ownsRow B 31 1 v a.length (a.map (Value.int .u32))) (hd : Wd a) (ht : Tidy a) (hl : a.length ≤ 1099511627776) : IsNat w v (wv a) := ⟨a, own_wlist h hd hl, ht, rfl⟩
theorem Fresh.isNat {w w' : World} {z : Int} {m : Nat} {v : Value} (h : Fresh w z m (.returned v) w') (hm : m ≤ 1099511627776) : IsNat w' v z ∧ Below w.heap.size w w' := by
  obtain ⟨v', a, e, h1, h2, h3, h4, h5, h6⟩ := h
  simp only [Ending.returned.injEq] at e
  subst e
  exact ⟨⟨a, own_wlist h1 h2 (by omega), h3, h4⟩, h6⟩
theorem isNat_zero {w : World} : IsNat w (.slice none 0 0) 0 := ⟨[], WList.nil, .inl rfl, rfl⟩
set_option maxHeartbeats 1000000 in
theorem div_zero (u v : Value) (b : List Int) (w : World) (hv : WList w v b) (hz : wv b = 0) :
    Calls Tryd.prog 79 #[u, v] w (NatDivNone w) := by
  obtain ⟨q, d, rfl⟩ := hv.shape
  have HV := Lib.hid hv
  have HT := Lib.hid (sig_any q b.length d b w hv.1 hv.2.2)
  clear hv
  go_enter Tryd.func79, Tryd.ntmps79
  go_wp2_with fail
  refine (HT.out).mono ?_; rintro e w' ⟨v1, m, rfl, hd, rfl⟩
  obtain ⟨hy, ey, ty⟩ := hd.wlist HV.out
  have h0 : b.take m = [] := (ty.wzero hy.2.1).1 (by rw [ey, hz])
  have hl : (b.take m).length = 0 := by rw [h0]; rfl
  obtain ⟨q1, d1, rfl⟩ := hy.shape
  rw [hl]
  clear hd hy ey ty h0 hl HV HT hz
  go_wp2_with fail
  go_ret3
  exact ⟨rfl, Below.refl _ _⟩
set_option maxHeartbeats 1000000 in
theorem div_less (u v : Value) (a b : List Int) (w : World) (hu : WList w u a) (hv : WList w v b) (hz : wv a < wv b) :
    Calls Tryd.prog 79 #[u, v] w (NatDivPost w 0 (wv a)) := by
  obtain ⟨q, d, rfl⟩ := hv.shape
  have HV := Lib.hid hv
  have HU := Lib.hid hu
  have HT := Lib.hid (sig_any q b.length d b w hv.1 hv.2.2)
  have ha0 := (wv_range hu.2.1).1
  have hcm : cmpI (wv a) (wv b) < 0 := by rw [cmpI_lt hz]; decide
  have HTr := Lib.hid (fun w1 (h : WList w1 u a) => trim_any u a w1 h _ rfl)
  clear hv hu
  go_enter Tryd.func79, Tryd.ntmps79
  go_wp2_with fail
  refine (HT.out).mono ?_; rintro e w' ⟨v1, m, rfl, hd, rfl⟩
  obtain ⟨hy, ey, ty⟩ := hd.wlist HV.out
  have hl : (b.take m).length ≠ 0 := by
    intro h
    rw [List.length_eq_zero_iff.1 h, wv_nil] at ey
    omega
  have HC := Lib.hid (cmp_any u v1 a _ w HU.out hy)
  rw [ey] at HC
  generalize cmpI (wv a) (wv b) = cm at *
  obtain ⟨q1, d1, rfl⟩ := hy.shape
  generalize (b.take m).length = L at *
  have lL : 0 < L := by omega
  have lM : L ≤ 1099511627776 := by
    have h1 := hy.2.2
    obtain ⟨_, _, e, _⟩ := hy.1
    simp only [Value.slice.injEq] at e
    omega
  clear hd hy ey ty hl HV HT hz ha0
  go_wp2_with fail
  refine (HC.out).mono ?_; rintro e w' ⟨rfl, nd, rfl⟩
  have hb0 := below_drewN (Below.refl w.heap.size w) nd
  generalize w.drewN nd = W at *
  have hb0 := Lib.hid hb0
  go_wp2_with fail
  refine (HTr.out _ (HU.out.below hb0.out)).mono ?_; rintro e w1 ⟨u1, x, rfl, hF⟩
  go_wp2_with fail
  go_ret3
  have hN := Fresh.isNat ⟨u1, x, rfl, hF⟩ HU.out.2.2
  exact ⟨_, _, rfl, isNat_zero, hN.1, hb0.out.trans (hN.2.mono hb0.out.size)⟩
theorem one_word {y : List Int} (hd : Wd y) (ht : Tidy y) (h0 : 0 < wv y) (h1 : wv y < 4294967296) : y = [wv y] := by
  have hl := ht.wlen hd (n := 1) (by simpa using h1)
  match y, hl with
  | [], _ => rw [wv_nil] at h0; omega
  | [d], _ => simp [wv, wvN]
set_option maxHeartbeats 1000000 in
theorem div_word (u v : Value) (a b : List Int) (w : World) (hu : WList w u a) (hv : WList w v b) (h0 : 0 < wv b) (h1 : wv b < 4294967296) (hz : wv b ≤ wv a) :
    Calls Tryd.prog 79 #[u, v] w (NatDivPost w (wv a / wv b) (wv a % wv b)) := by
  obtain ⟨q, d, rfl⟩ := hv.shape
  have HV := Lib.hid hv
  have HU := Lib.hid hu
  have HT := Lib.hid (sig_any q b.length d b w hv.1 hv.2.2)
  have hcm : ¬ cmpI (wv a) (wv b) < 0 := by have := cmpI_ge.2 hz; omega
  have HTr := Lib.hid (fun w1 (h : WList w1 u a) => trim_any u a w1 h _ rfl)
  clear hv hu
  go_enter Tryd.func79, Tryd.ntmps79
  go_wp2_with fail
  refine (HT.out).mono ?_; rintro e w' ⟨v1, m, rfl, hd, rfl⟩
  obtain ⟨hy, ey, ty⟩ := hd.wlist HV.out
  have ho := one_word hy.2.1 ty (by rw [ey]; exact h0) (by rw [ey]; exact h1)
  rw [ey] at ho
  have HC := Lib.hid (cmp_any u v1 a _ w HU.out hy)
  rw [ey] at HC
  generalize cmpI (wv a) (wv b) = cm at *
  rw [ho] at hy
  obtain ⟨q1, d1, rfl⟩ := hy.shape
  have hcell : ∃ k o, q1 = some ⟨k, o, none⟩ ∧ w.cell? ⟨k, o, none⟩ = some (.int .u32 (wv b)) := by
    obtain ⟨k, o, e, _, hc⟩ := hy.1.cell (i := 0) (by simp)
    exact ⟨k, o, e, by simpa using hc⟩
  obtain ⟨k, o, rfl, hcell⟩ := hcell
  clear hd hy ey ty HV HT ho
  go_wp2_with fail
  refine (HC.out).mono ?_; rintro e w' ⟨rfl, nd, rfl⟩
  have hb0 := below_drewN (Below.refl w.heap.size w) nd
  have hcell := cell_later hb0 hcell
  generalize w.drewN nd = W at *
  have hb0 := Lib.hid hb0
  go_wp2_with fail
  refine (HTr.out _ (HU.out.below hb0.out)).mono ?_; rintro e w1 ⟨u1, x, rfl, hown, hd, ht, hz1, hm, hb1⟩
  have hcell := cell_later hb1 hcell
  have hz1' := Lib.hid hz1
  rcases own_cases hown with ⟨rfl, rfl⟩ | ⟨g, cap, rfl, hr⟩
  · rw [wv_nil] at hz1; omega
  · have hg := hr.facts.1
    have lx : x.length ≤ 1099511627776 := by have := HU.out.2.2; omega
    have HDB := Lib.hid (dbw_any W.heap.size g cap x (wv b) w1 hr hd lx h0 (by omega))
    have hB1 := Lib.hid hb1
    have lx := Lib.hid lx
    have hr0 : 0 ≤ wv x % wv b := Int.emod_nonneg _ (by omega)
    have hr1 : wv x % wv b < wv b := Int.emod_lt_of_pos _ h0
    clear hown hd ht hm hr hz1 hb1 HC HTr HU
    go_wp2_with fail
    refine (HDB.out).mono ?_; rintro e w2 ⟨out, rfl, hr2, hd2, hl2, hv2, honly⟩
    have hb2 := honly.below (B := W.heap.size) hg
    rw [hz1'.out] at hr0 hr1 ⊢
    rw [hz1'.out] at hv2
    have HW := Lib.hid (hr2.wlist hd2 (by have := lx.out; omega))
    have HS := Lib.hid (sig_any _ _ _ _ _ HW.out.1 (by have := lx.out; omega))
    rw [hl2] at HS
    have HR := Lib.hid (And.intro hr2 (And.intro hd2 (And.intro hl2 hv2)))
    have HB2 := Lib.hid (hB1.out.trans (hb2.mono (Nat.le_refl _)))
    have HOf := Lib.hid (fun w3 => of_any' (wv a % wv b) hr0 (by omega) w3)
    clear hr2 hd2 hl2 hv2 honly hb2 HDB hcell HW hB1
    generalize wv a % wv b = rm at *
    go_wp2_with fail
    refine (HS.out).mono ?_; rintro e w' ⟨u2, n, rfl, hc, rfl⟩
    go_wp2_with fail
    refine (HOf.out _).mono ?_; rintro e w3 ⟨u3, z, rfl, hF⟩
    go_wp2_with fail
    go_ret3
    have hN := Fresh.isNat ⟨u3, z, rfl, hF⟩ (by decide)
    have hw := hc.wlist (HR.out.1.wlist HR.out.2.1 (by have := lx.out; have := HR.out.2.2.1; omega))
    have hQ : IsNat w2 u2 (wv a / wv b) := ⟨_, hw.1, hw.2.2, hw.2.1.trans HR.out.2.2.2⟩
    have hb3 := HB2.out.trans (hN.2.mono HB2.out.size)
    exact ⟨_, _, rfl, hQ.below hN.2, hN.1, hb0.out.trans (hb3.mono hb0.out.size)⟩
end Go.Proofs.YtpfcacjcikhamaaDoor
