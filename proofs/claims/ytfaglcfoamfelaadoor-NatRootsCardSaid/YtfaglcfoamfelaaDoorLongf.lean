/- What Div of package nat returns, of any two numbers. -/
import Derived.Test.YtfaglcfoamfelaaDoorLonge
import Derived.Test.YtfaglcfoamfelaaDoorNatr
import Derived.Deep.RegionWith
import Derived.Outline
namespace Go.Proofs.YtfaglcfoamfelaaDoor
open Go.RowKit
set_option linter.unusedVariables false
theorem WRow.base {w : World} {B B' g cap : Nat} {a : List Int} (h : WRow w B g cap a) (hB : B' ≤ B) : WRow w B' g cap a := by
  obtain ⟨h1, h2⟩ := h
  refine ⟨h1, ?_⟩
  rcases h2 with h2 | ⟨g', cap', cur, e, h3, h4⟩
  · exact .inl h2
  · exact .inr ⟨g', cap', cur, e, by omega, h4⟩
/-- The shift that lays a divisor's highest bit. -/
theorem shift_facts (T : Nat) (h0 : 0 < T) (h1 : T < 4294967296) : ∃ s : Nat, (32 : Int) - (Lib.bitLen T : Int) = (s : Int) ∧ s < 32 ∧ 2147483648 ≤ T * 2 ^ s ∧ (T + 1) * 2 ^ s ≤ 4294967296 := by
  have hL := bitLen_log T h0 (by omega)
  have h2 := Nat.log2_self_le (n := T) (by omega)
  have h3 := Nat.lt_log2_self (n := T)
  have h4 : Nat.log2 T < 32 := by
    by_cases e : Nat.log2 T < 32
    · exact e
    · have := Nat.pow_le_pow_right (n := 2) (by decide) (show 32 ≤ Nat.log2 T by omega)
      omega
  generalize Nat.log2 T = L at *
  refine ⟨31 - L, by rw [hL]; omega, by omega, ?_, ?_⟩
  · have k1 : 2 ^ L * 2 ^ (31 - L) ≤ T * 2 ^ (31 - L) := Nat.mul_le_mul_right _ h2
    rw [← Nat.pow_add, show L + (31 - L) = 31 from by omega] at k1
    omega
  · have k1 : (T + 1) * 2 ^ (31 - L) ≤ 2 ^ (L + 1) * 2 ^ (31 - L) := Nat.mul_le_mul_right _ h3
    rw [← Nat.pow_add, show L + 1 + (31 - L) = 32 from by omega] at k1
    omega
/-- What the raised divisor's and the raised number's words are good for. -/
theorem raised_facts {a y A V : List Int} {n s : Nat} (ha : Wd a) (hy : Wd y) (hV : Wd V) (hl : y.length = n + 1) (h0 : 0 < y.getD n 0) (hs : s < 32) (h1 : 2147483648 ≤ y.getD n 0 * 2 ^ s) (h2 : (y.getD n 0 + 1) * 2 ^ s ≤ 4294967296)
    (hv : wv V = wv y * 2 ^ s) (hVl : V.length = n + 2) (hA : wv A = wv a * 2 ^ s) :
    wvN V (n + 1) = wv V ∧ 2147483648 ≤ V.getD n 0 ∧ ∀ j, j + (n + 1) = a.length + 1 → wv A < wv V * 4294967296 ^ j := by
  have hp := q_pos n
  have hps : (0 : Int) < 2 ^ s := Int.pow_pos (by decide)
  have e1 : wv y = wvN y n + y.getD n 0 * 4294967296 ^ n := by rw [wv, hl, wvN]
  have hr := wvN_range hy n
  have ha2 := (wv_range ha).2
  have ha0 := (wv_range ha).1
  have hlow : y.getD n 0 * 4294967296 ^ n * 2 ^ s ≤ wv V := by
    rw [hv]; exact Int.mul_le_mul_of_nonneg_right (by omega) (by omega)
  have hup : wv V < 4294967296 ^ (n + 1) := by
    have k1 : wv y + 1 ≤ (y.getD n 0 + 1) * 4294967296 ^ n := by rw [Int.add_mul]; omega
    have k2 : (wv y + 1) * 2 ^ s ≤ (y.getD n 0 + 1) * 4294967296 ^ n * 2 ^ s := Int.mul_le_mul_of_nonneg_right k1 (by omega)
    have k3 : (y.getD n 0 + 1) * 4294967296 ^ n * 2 ^ s = (y.getD n 0 + 1) * 2 ^ s * 4294967296 ^ n := by rw [Int.mul_assoc, Int.mul_comm (4294967296 ^ n : Int), ← Int.mul_assoc]
    have k4 : (y.getD n 0 + 1) * 2 ^ s * 4294967296 ^ n ≤ 4294967296 * 4294967296 ^ n := Int.mul_le_mul_of_nonneg_right h2 (by omega)
    rw [q_succ, hv, Int.mul_comm (4294967296 ^ n : Int)]
    rw [Int.add_mul] at k2
    omega
  have hlow2 : 2147483648 * 4294967296 ^ n ≤ wv V := by
    have k3 : y.getD n 0 * 4294967296 ^ n * 2 ^ s = y.getD n 0 * 2 ^ s * 4294967296 ^ n := by rw [Int.mul_assoc, Int.mul_comm (4294967296 ^ n : Int), ← Int.mul_assoc]
    have k4 : 2147483648 * 4294967296 ^ n ≤ y.getD n 0 * 2 ^ s * 4294967296 ^ n := Int.mul_le_mul_of_nonneg_right h1 (by omega)
    omega
  have hcut := wvN_of_lt hV hup
  refine ⟨hcut, ?_, fun j hj => ?_⟩
  · rw [wvN] at hcut
    have hrV := wvN_range hV n
    by_cases g : 2147483648 ≤ V.getD n 0
    · exact g
    · exfalso
      have : V.getD n 0 * 4294967296 ^ n ≤ 2147483647 * 4294967296 ^ n := Int.mul_le_mul_of_nonneg_right (by omega) (by omega)
      omega
  · rw [hA]
    have h31 : (2 : Int) ^ s ≤ 2147483648 := by have := pow2_mono (m := s) (n := 31) (by omega); simpa using this
    have k1 : wv a * 2 ^ s < 4294967296 ^ a.length * 2 ^ s := Int.mul_lt_mul_of_pos_right ha2 hps
    have k2 : (4294967296 : Int) ^ a.length * 2 ^ s ≤ 4294967296 ^ a.length * 2147483648 := Int.mul_le_mul_of_nonneg_left h31 (Int.le_of_lt (q_pos _))
    have k3 : 2147483648 * 4294967296 ^ n * 4294967296 ^ j ≤ wv V * 4294967296 ^ j := Int.mul_le_mul_of_nonneg_right hlow2 (Int.le_of_lt (q_pos _))
    have k4 : (2147483648 : Int) * 4294967296 ^ n * 4294967296 ^ j = 4294967296 ^ a.length * 2147483648 := by
      rw [Int.mul_assoc, ← Int.pow_add, show n + j = a.length from by omega, Int.mul_comm]
    omega
def RaisedG (w : World) (z : Int) (L : Nat) (e : Ending) (w' : World) : Prop :=
  ∃ g out, e = .returned (.slice (some ⟨g, 0, none⟩) L L) ∧ w.heap.size ≤ g ∧ WRow w' w.heap.size g L out ∧ Below w.heap.size w w' ∧ Wd out ∧ out.length = L ∧ wv out = z
theorem raise_small (u : Value) (a : List Int) (w : World) (hu : WList w u a) (la : a.length ≤ 274877906944) (s : Nat) (hs : s < 32) :
    Calls Tryd.prog 56 #[u, .int .i64 s] w (RaisedG w (wv a * 2 ^ s) (a.length + 1)) := by
  refine (raise_any u a w hu la s 0 s (by omega) hs (by omega)).mono ?_
  rintro e w' ⟨out, rfl, hF, hd, hl, hz⟩
  exact ⟨_, out, rfl, Nat.le_refl _, hF.1, hF.2, hd, hl, by rw [hz]; simp⟩
theorem WRow.lt {w : World} {B g cap : Nat} {a : List Int} (h : WRow w B g cap a) : g < w.heap.size := h.facts.2.1
theorem wv_take_any {V : List Int} {k : Nat} (h : k ≤ V.length) : wv (V.take k) = wvN V k := by
  have hl : (V.take k).length = k := by rw [List.length_take]; omega
  rw [wv, hl]
  exact wvN_congr (fun i hi => by simp [List.getD, hi])
theorem lowered {a b A V Q S : Int} {s : Nat} (hA : A = a * 2 ^ s) (hV : V = b * 2 ^ s) (hS : S = A % V) (hQ : Q = A / V) : Q = a / b ∧ S / 2 ^ s = a % b := by
  have hp : (0 : Int) < 2 ^ s := Int.pow_pos (by decide)
  rw [hQ, hS, hA, hV]
  refine ⟨Int.mul_ediv_mul_of_pos_left _ _ hp, ?_⟩
  rw [Int.mul_comm a, Int.mul_comm b, Int.mul_emod_mul_of_pos _ _ hp]
  exact Int.mul_ediv_cancel_left _ (by omega)
set_option maxHeartbeats 4000000 in
theorem div_long (u v : Value) (a b : List Int) (w : World) (hu : WList w u a) (hv : WList w v b) (la : a.length ≤ 900000) (h1 : 4294967296 ≤ wv b) (hz : wv b ≤ wv a) :
    Calls Tryd.prog 32 #[u, v] w (NatDivPost w (wv a / wv b) (wv a % wv b)) := by
  obtain ⟨q, d, rfl⟩ := hv.shape
  have HV := Lib.hid hv
  have HU := Lib.hid hu
  have HT := Lib.hid (sig_any q b.length d b w hv.1 hv.2.2)
  have hcm : ¬ cmpI (wv a) (wv b) < 0 := by have := cmpI_ge.2 hz; omega
  clear hv hu
  go_enter Tryd.func32, Tryd.ntmps32
  go_wp2_with fail
  refine (HT.out).mono ?_; rintro e w' ⟨v1, mm, rfl, hd, rfl⟩
  obtain ⟨hy, ey, ty⟩ := hd.wlist HV.out
  have HC := Lib.hid (cmp_any u v1 a _ w HU.out hy)
  rw [ey] at HC
  generalize cmpI (wv a) (wv b) = cm at *
  generalize b.take mm = y at *
  obtain ⟨q1, d1, rfl⟩ := hy.shape
  have hyl : ∃ m, y.length = m + 2 := by
    by_cases e : y.length ≤ 1
    · exfalso
      have k1 := (wv_range hy.2.1).2
      have k2 := q_mono (m := y.length) (n := 1) (by omega)
      simp at k2
      omega
    · exact ⟨y.length - 2, by omega⟩
  obtain ⟨m, hm⟩ := hyl
  have hml : m + 2 ≤ a.length := by
    have k1 := ty.wsize hy.2.1 (by intro e; subst e; simp at hm)
    have k2 := (wv_range HU.out.2.1).2
    by_cases e : m + 2 ≤ a.length
    · exact e
    · exfalso
      have := q_mono (m := a.length) (n := y.length - 1) (by omega)
      omega
  have hT0 : 0 < y.getD (m + 1) 0 := by
    have k1 := ty.resolve_left (by intro e; subst e; simp at hm)
    rw [hm] at k1
    have k2 := (hy.2.1.getD (m + 1)).1
    have k3 : y.getD (m + 1) 0 ≠ 0 := k1
    omega
  have hT1 := (hy.2.1.getD (m + 1)).2
  obtain ⟨T, hTT⟩ := Int.eq_ofNat_of_zero_le (Int.le_of_lt hT0)
  obtain ⟨s, hs1, hs2, hs3, hs4⟩ := shift_facts T (by omega) (by omega)
  obtain ⟨bq, oq, rfl, hbq, hc⟩ := hy.1.cell (i := m + 1) (by omega)
  have HLz := Lib.hid (fun w1 => lz32_any (T : Int) w1 (by omega) (by omega))
  simp only [Int.toNat_natCast] at HLz
  rw [hs1] at HLz
  rw [hTT] at hc
  have HS := Lib.hid (And.intro hs3 hs4)
  have hb2l : b.length ≤ 1099511627776 := HV.out.2.2
  have HRa := Lib.hid (fun w1 (h : WList w1 u a) => raise_small u a w1 h (by omega) s hs2)
  have HRb := Lib.hid (fun w1 (h : WList w1 (.slice (some ⟨bq, oq, none⟩) y.length d1) y) => raise_small _ y w1 h (by omega) s hs2)
  have HY := Lib.hid (And.intro hy (And.intro ey (And.intro hm (And.intro hT0 hTT))))
  rw [hm] at HC HRb ⊢
  clear hd hy ey ty HV HT hs1 hs3 hs4 hT0 hT1 hTT hb2l
  go_wp2_with fail
  refine (HC.out).mono ?_; rintro e w' ⟨rfl, nd, rfl⟩
  have hb0 := below_drewN (Below.refl w.heap.size w) nd
  have hc := cell_later hb0 hc
  generalize w.drewN nd = W at *
  have hb0 := Lib.hid hb0
  have hlen1 : (((m : Int) + 2) == 1) = false := by simp; omega
  go_wp2_with (go_at_call 55; refine (HLz.out _).mono ?_; rintro e w' ⟨rfl, rfl⟩)
  have hra := Lib.hid (HU.out.below hb0.out)
  have hrb := Lib.hid (HY.out.1.below hb0.out)
  rw [hm] at hrb
  go_region_with (first
    | (go_at_call_of 56 oq; refine (HRb.out _ ?_).mono ?_; exact hrb2.out; rintro e w2 ⟨g2, V, rfl, hg2, hR2, hB2, hd2, hl2, hz2⟩)
    | (go_at_call_of 56 u; refine (HRa.out _ ?_).mono ?_; exact hra.out.below (Below.refl _ _).drew; rintro e w1 ⟨g1, A1, rfl, hg1, hR1, hB1, hd1, hl1, hz1⟩; have hB1' := (Below.refl W.heap.size W).drew.trans hB1; have hrb2 := Lib.hid (hrb.out.below hB1')))
  obtain ⟨HY1, HY2, -, HY4, HY5⟩ := HY.out
  have hps : ((2 ^ s : Nat) : Int) = (2 : Int) ^ s := by simp
  obtain ⟨hcutV, htop, hlt⟩ := raised_facts (a := a) (y := y) (A := A1) (V := V) (n := m + 1) (s := s) HU.out.2.1 HY1.2.1 hd2 hm HY4 hs2 (by rw [HY5, ← hps, ← Int.natCast_mul]; have := HS.out.1; omega) (by rw [HY5, ← hps, show ((T : Int) + 1) = ((T + 1 : Nat) : Int) from rfl, ← Int.natCast_mul]; have := HS.out.2; omega) hz2 hl2 hz1
  rw [HY2] at hz2
  obtain ⟨j0, hj0⟩ : ∃ j0, a.length + 1 = j0 + (m + 2) := ⟨a.length - (m + 1), by omega⟩
  have hg12 : g1 < w1.heap.size := hR1.lt
  have hR2l : g2 < w2.heap.size := hR2.lt
  have hsz1 : W.heap.size ≤ w1.heap.size := hB1'.size
  have hsz2 : w1.heap.size ≤ w2.heap.size := hB2.size
  have hRow := (hR1.call hB2).base (B' := W.heap.size) (Nat.le_refl _)
  have hVw := hR2.wlist hd2 (by omega)
  rw [hl2] at hVw
  have hVk : V.length = m + 2 + 1 := hl2
  have hVt : wv (V.take (m + 2)) = wv V := (wv_take_any (by omega)).trans hcutV
  have hVW : WList w2 (.slice (some ⟨g2, 0, none⟩) (m + 2) (m + 2 + 1)) (V.take (m + 2)) := ⟨hVw.1.take (by omega), hd2.take _, by rw [List.length_take]; omega⟩
  have hVl : (V.take (m + 2)).length = m + 2 := by rw [List.length_take]; omega
  have hVg : (V.take (m + 2)).getD (m + 1) 0 = V.getD (m + 1) 0 := by simp [List.getD]
  have HD := Lib.hid (long_any W.heap.size g1 (a.length + 1) A1 g2 0 (m + 2 + 1) m (V.take (m + 2)) j0 w2 hRow hd1 hVW (by omega) hR2l (by omega) hVl (by omega) (by omega) (by omega) (by rw [hVg]; exact htop) (by rw [hVt]; exact hlt j0 hj0.symm))
  rw [hl1] at HD
  have HZ := Lib.hid (And.intro hz1 (And.intro hz2 (And.intro hVt hl1)))
  have HB := Lib.hid (hb0.out.trans ((hB1'.trans (hB2.mono hsz1)).mono hb0.out.size))
  have hszB := Lib.hid (Nat.le_trans hsz1 hsz2)
  have hWs := Lib.hid hb0.out.size
  have la2 := Lib.hid la
  have lj0 : Hid (j0 ≤ 1000000) := Lib.hid (by omega)
  clear HY1 HY2 HY4 HY5 hps hcutV htop hlt hg12 hR2l hsz1 hsz2 hRow hVw hVk hVt hVW hVl hVg hR1 hR2 hB1 hB1' hB2 hd1 hd2 hz1 hz2 hl1 hl2 hg1 hg2 hra hrb hrb2 HRa HRb HLz HC
  generalize V.take (m + 2) = V2 at *
  clear hj0
  have hs2 := Lib.hid hs2
  go_wp2_with fail
  refine (HD.out).mono ?_; rintro e w3 ⟨S, Qt, rfl, hS, hSd, hSl, hSv, hQ, hQd, hQl, hQv, hB3⟩
  rw [HZ.out.2.2.2] at hSl
  obtain ⟨hq, hr⟩ := lowered HZ.out.1 HZ.out.2.1 (hSv.trans (by rw [HZ.out.2.2.1])) (hQv.trans (by rw [HZ.out.2.2.1]))
  have hQw := hQ.wlist hQd (by rw [hQl]; have := lj0.out; omega)
  rw [hQl] at hQw
  have HSg := Lib.hid (sig_any (some ⟨w2.heap.size, 0, none⟩) j0 j0 Qt w3 hQw.1 (by have := lj0.out; omega))
  have hSw := hS.wlist hSd (by rw [hSl]; have := la2.out; omega)
  rw [hSl] at hSw
  have HSh := Lib.hid (shr_any (.slice (some ⟨g1, 0, none⟩) (a.length + 1) (a.length + 1)) S w3 hSw (by rw [hSl]; have := la2.out; omega) (s : Int) s (by omega) (by have := hs2.out; omega))
  rw [hr] at HSh
  have HQ := Lib.hid (And.intro hQ (And.intro hQd (And.intro hQl hq)))
  have HB := Lib.hid (HB.out.trans (hB3.mono hWs.out))
  have HSl := Lib.hid hSl
  clear hS hSd hSl hSv hQ hQd hQl hQv hB3 hq hr hQw hSw HD
  go_wp2_with fail
  refine (HSg.out).mono ?_; rintro e w' ⟨u2, n, rfl, hc, rfl⟩
  go_wp2_with fail
  refine (HSh.out).mono ?_; rintro e w4 ⟨u3, z, rfl, hF⟩
  go_wp2_with fail
  go_ret3
  have hN := Fresh.isNat ⟨u3, z, rfl, hF⟩ (by rw [HSl.out]; have := la2.out; omega)
  have hw := hc.wlist (HQ.out.1.wlist HQ.out.2.1 (by rw [HQ.out.2.2.1]; have := lj0.out; omega))
  have hQ : IsNat w3 u2 (wv a / wv b) := ⟨_, hw.1, hw.2.2, hw.2.1.trans HQ.out.2.2.2⟩
  exact ⟨_, _, rfl, hQ.below hN.2, hN.1, HB.out.trans (hN.2.mono HB.out.size)⟩
/-- Div, of any two numbers. -/
theorem div_any (u v : Value) (a b : List Int) (w : World) (hu : WList w u a) (hv : WList w v b) (la : a.length ≤ 900000) (h0 : 0 < wv b) :
    Calls Tryd.prog 32 #[u, v] w (NatDivPost w (wv a / wv b) (wv a % wv b)) := by
  have ha := (wv_range hu.2.1).1
  by_cases h1 : wv a < wv b
  · rw [Int.ediv_eq_zero_of_lt ha h1, Int.emod_eq_of_lt ha h1]
    exact div_less u v a b w hu hv h1
  · by_cases h2 : wv b < 4294967296
    · exact div_word u v a b w hu hv h0 h2 (by omega)
    · exact div_long u v a b w hu hv la (by omega) (by omega)
end Go.Proofs.YtfaglcfoamfelaaDoor
